package server_test

import (
	"fmt"
	"maps"
	"math/rand"
	"slices"
	"testing"

	"inquest/api"
	"inquest/disk"
	"inquest/server"
	"inquest/wire"
)

// one answers one of these by chance.
func one[T any](r *rand.Rand, l ...T) T { return l[r.Intn(len(l))] }

// anyName answers the name of an upload, a history or a specification, now and then one that is none.
func anyName(r *rand.Rand) string {
	if r.Intn(30) == 0 {
		return one(r, "", "1a", "a-/", "a2345678901234567")
	}
	return one(r, "a", "b", "c", fmt.Sprintf("n%d", r.Intn(20)))
}

// anyBody answers bytes by chance, most often one of these.
func anyBody(r *rand.Rand, samples map[string]string) string {
	switch r.Intn(12) {
	case 0:
		b := make([]byte, r.Intn(2049))
		r.Read(b)
		return string(b)
	case 1:
		return ""
	}
	return samples[one(r, slices.Sorted(maps.Keys(samples))...)]
}

// anyRequest answers a request by chance that bears this token: often one that is done.
func anyRequest(r *rand.Rand, token string) string {
	method, target, body := "GET", "", ""
	switch r.Intn(13) {
	case 0, 1:
		method, target, body = "PUT", "/uploads/"+anyName(r), anyBody(r, histories())
	case 2:
		method, target = "POST", "/histories/"+anyName(r)
	case 3:
		method, target, body = "PUT", "/specs/"+anyName(r), anyBody(r, specs())
	case 4, 5:
		method, target = "POST", "/jobs/"+anyName(r)+"/"+anyName(r)
	case 6:
		target = fmt.Sprint("/jobs/", r.Intn(5))
	case 7:
		target = fmt.Sprintf("/entries/%d/%d", r.Intn(5), r.Intn(5))
	case 8:
		target = fmt.Sprintf("/growth/%d/%d", r.Intn(5), r.Intn(5))
	case 9:
		target = fmt.Sprint("/heads/", r.Intn(5))
	case 10:
		target = one(r, "/head", "/usage")
	default:
		method, target, body = one(r, "GET", "PUT", "POST"), one(r, "/", "/none", "/head", "/usage", "/jobs/00", "/uploads/a", "/specs/b", "/histories/c"), one(r, "", "x")
	}
	if r.Intn(3) == 0 {
		return chunked(method, target, token, body, 1+r.Intn(300))
	}
	return ask(method, target, token, body)
}

// anyNonsense answers bytes that are no request: of one, changed, cut off, or by chance.
func anyNonsense(r *rand.Rand, token string) string {
	b := []byte(anyRequest(r, token))
	switch r.Intn(4) {
	case 0:
		b[r.Intn(len(b))] = byte(r.Intn(256))
	case 1:
		b = b[r.Intn(len(b)):]
	case 2:
		b = []byte(one(r, wrongs()...).s)
	default:
		r.Read(b)
	}
	return string(b)
}

// noToken answers a token that is not taken, by chance: none, another key's, one whose time has come, one of a byte more or less.
func (w *words) noToken(r *rand.Rand, name string) string {
	good := w.token(name, mostTime)
	return one(r, "", signed("other", name, mostTime), w.token(name, w.now/2), w.token(name, w.now), good+"0", good[1:], "Bearer "+good)
}

// anyToken answers a token by chance, most often one of a member that is taken.
func (w *words) anyToken(r *rand.Rand, names ...string) string {
	name := one(r, names...)
	switch r.Intn(14) {
	case 0:
		return w.noToken(r, name)
	case 1:
		return w.token("nobody", mostTime)
	}
	return w.token(name, one(r, min(w.now+1+r.Intn(40), mostTime), mostTime))
}

// sender sends by chance, on each connection piece by piece what it has to.
type sender struct {
	r    *rand.Rand
	rest [conns]string
}

// next answers the next piece on a connection, of requests that bear one of these tokens.
func (x *sender) next(conn int, token func() string) string {
	if x.rest[conn] == "" {
		for range 1 + x.r.Intn(3) {
			if x.r.Intn(25) == 0 {
				x.rest[conn] += anyNonsense(x.r, token())
			} else {
				x.rest[conn] += anyRequest(x.r, token())
			}
		}
	}
	s := x.rest[conn]
	n := len(s)
	if x.r.Intn(3) == 0 {
		n = x.r.Intn(n + 1)
	}
	x.rest[conn] = s[n:]
	return s[:n]
}

// anyLimits answers limits by chance; now and then such as can't be.
func anyLimits(r *rand.Rand) api.Limits {
	lim := api.Limits{Quota: r.Intn(4000), Queue: 1 + r.Intn(8), Fuel: r.Intn(60), Budget: r.Intn(60)}
	if r.Intn(12) == 0 {
		lim.Fuel = -1
	}
	return lim
}

// anyMembers answers n members by chance.
func anyMembers(r *rand.Rand, n int) []api.Member {
	l := slices.Clone(named(n))
	r.Shuffle(n, func(i, k int) { l[i], l[k] = l[k], l[i] })
	for k := range l {
		l[k].Limits = anyLimits(r)
	}
	return l
}

// namesOf answers the names of members.
func namesOf(l []api.Member) []string {
	var all []string
	for _, m := range l {
		all = append(all, m.Name)
	}
	return all
}

// counts counts the statuses of answers, and answers how many answers there are.
func counts(t *testing.T, s string, met map[int]int) int {
	t.Helper()
	n := 0
	for b := []byte(s); len(b) > 0; n++ {
		code, _, size, err := wire.ReadAnswer(b)
		must(t, err)
		met[code]++
		b = b[size:]
	}
	return n
}

// anyRow does a row of deeds by chance, and holds it against the words.
func (p *pair) anyRow(t *testing.T, x *sender, n int, met map[int]int) {
	t.Helper()
	for k := range n {
		p.deeds = x.r.Intn(2) == 0
		switch x.r.Intn(40) {
		case 0, 1, 2, 3, 4, 5, 6, 7:
			p.pick(t, x.r.Intn(60)-2)
		case 8, 9, 10:
			p.pass(t, x.r.Intn(30)-2)
		case 11:
			p.shut(t, x.r.Intn(conns+2)-1)
		case 12:
			p.arm(t, x.r.Intn(len(p.disks)+2)-1, x.r.Intn(30)-2)
		case 13:
			p.crash(t, byChance(x.r, 6), one(x.r, -1, -1, x.r.Intn(40)))
		case 14:
			p.none(t, api.Deed{Kind: one(x.r, 0, -1, 7, 8, least, greatest), Conn: x.r.Intn(16), Tenant: x.r.Intn(8), N: x.r.Intn(9), Bytes: []byte(anyRequest(x.r, p.mine("a")))})
		default:
			conn := x.r.Intn(1 + x.r.Intn(conns))
			s := p.hear(t, conn, x.next(conn, func() string { return p.w.anyToken(x.r, namesOf(p.w.members)...) }))
			counts(t, s, met)
			if p.w.deaf[conn] && x.r.Intn(4) == 0 {
				p.shut(t, conn)
				x.rest[conn] = ""
			}
		}
		if k%25 == 0 {
			p.stands(t)
		}
	}
	p.stands(t)
}

// begins lets a member have, as far as it may, what rows by chance ask for.
func (p *pair) begins(t *testing.T, name string) {
	t.Helper()
	for _, x := range [][3]string{{"a", "turn", "cell"}, {"b", "crowd", "echo"}, {"c", "set", "cell"}} {
		p.hear(t, 0, ask("PUT", "/uploads/"+x[0], p.mine(name), histories()[x[1]])+ask("POST", "/histories/"+x[0], p.mine(name), ""))
		p.hear(t, 0, ask("PUT", "/specs/"+x[0], p.mine(name), specs()[x[2]]))
	}
}

// statuses are all that are told.
func statuses() []int { return []int{200, 400, 401, 403, 404, 405, 409, 413, 422, 429, 503, 507} }

// P24.1 to P24.5, P1: rows of deeds by chance, held against the chapter's words.
func TestRowsByChance(t *testing.T) {
	r := rand.New(rand.NewSource(2406))
	met := map[int]int{}
	done := 0
	for range 150 {
		l := anyMembers(r, 1+r.Intn(mostMembers))
		p := made(t, l, 30+r.Intn(200))
		for k, m := range l {
			if r.Intn(2) == 0 && !p.s.Down(k) {
				p.begins(t, m.Name)
			}
		}
		p.anyRow(t, &sender{r: r}, r.Intn(400), met)
		for k := range l {
			if !p.s.Down(k) {
				done += p.s.Tenant(k).Ledger().Size()
			}
		}
	}
	often(t, met, 20, statuses()...)
	if done < 100 {
		t.Errorf("only %d jobs were done", done)
	}
}

// anyInt answers any number, often a small one.
func anyInt(r *rand.Rand) int {
	if r.Intn(3) == 0 {
		return one(r, least, least+1, -1, greatest, greatest-1, mostTime, mostTime+1, int(r.Uint64()))
	}
	return r.Intn(20) - 2
}

// R1: no panic comes out of the package, whatever is handed in.
func TestNoPanic(t *testing.T) {
	r := rand.New(rand.NewSource(2407))
	for range 300 {
		n := r.Intn(10)
		var l []api.Member
		var disks []*disk.Disk
		all := blankDisks(t, 3, 1+r.Intn(60))
		all = append(all, nil, new(disk.Disk))
		for k := range n {
			lim := api.Limits{Quota: anyInt(r), Queue: anyInt(r), Fuel: anyInt(r), Budget: anyInt(r)}
			l = append(l, api.Member{Name: one(r, fmt.Sprintf("a%d", k), fmt.Sprintf("a%d", k), "a", "A"), Limits: one(r, lim, wide)})
			disks = append(disks, one(r, all...))
		}
		s, err := server.New(make([]byte, r.Intn(300)), l, disks)
		if (s == nil) != (err != api.OK) {
			t.Fatalf("New: a server %t, error %d", s != nil, err)
		}
		for range 60 {
			anyCall(r, s)
		}
	}
	p := made(t, named(1), 60)
	p.answers(t, 0, string(make([]byte, 1<<21)), answered(400, ""))
	p.s.Crash(make([]bool, 1<<21), greatest)
}

// anyCall calls something with anything.
func anyCall(r *rand.Rand, s *server.Server) {
	mine, _ := s.Mint(one(r, "a0", "a1", "a"), 1<<30)
	b := []byte(one(r, anyRequest(r, mine), anyRequest(r, mine), anyNonsense(r, mine)))
	switch r.Intn(10) {
	case 0:
		s.Mint(one(r, "a", "", "A", string(b)), anyInt(r))
	case 1:
		s.Shut(anyInt(r))
	case 2:
		s.Pass(anyInt(r))
	case 3:
		s.Pick(anyInt(r))
	case 4:
		s.Arm(anyInt(r), anyInt(r))
	case 5:
		s.Crash(byChance(r, 9), anyInt(r))
	case 6:
		s.Do(api.Deed{Kind: anyInt(r), Conn: anyInt(r), Tenant: anyInt(r), N: anyInt(r), Bytes: b, Keep: byChance(r, 9)})
	case 7:
		s.Down(anyInt(r))
		s.Tenant(anyInt(r)).Do(api.Ask{Kind: anyInt(r), Name: "a", Body: b}, anyInt(r))
	default:
		s.Hear(anyInt(r), b)
	}
	s.Now()
}
