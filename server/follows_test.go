package server_test

import (
	"fmt"
	"math/rand"
	"slices"
	"strings"
	"testing"

	"inquest/api"
	"inquest/wire"
)

// apart is two servers on which the same is done, but for what is sent on some connections.
type apart struct {
	p, q  *pair
	who   int  // the member who is to see nothing of that
	mine  int  // connections 0 to mine-1 are sent the same
	empty bool // on q the others are sent nothing
}

// do does a deed on both, and asks for the same answers, but for what is told of the others.
func (x *apart) do(t *testing.T, r *rand.Rand, mine, p, q *sender, met map[int]int) {
	t.Helper()
	l := namesOf(x.p.w.members)
	me := l[x.who]
	others := slices.Delete(slices.Clone(l), x.who, x.who+1)
	switch r.Intn(36) {
	case 0, 1, 2, 3, 4, 5:
		n := r.Intn(60) - 2
		at, tries, done := x.p.pick(t, n)
		k, j, ok := x.q.pick(t, n)
		if at != k || at == x.who && (tries != j || done != ok) {
			t.Fatalf("Pick(%d): %d, %d, %t, not %d, %d, %t", n, k, j, ok, at, tries, done)
		}
	case 6, 7:
		n := r.Intn(30)
		x.p.pass(t, n)
		x.q.pass(t, n)
	case 8:
		conn := r.Intn(conns)
		x.p.shut(t, conn)
		x.q.shut(t, conn)
	case 9:
		k, n := r.Intn(len(l)), r.Intn(30)
		x.p.arm(t, k, n)
		x.q.arm(t, k, n)
	case 10:
		keep, n := byChance(r, 6), one(r, -1, -1, r.Intn(40))
		x.p.crash(t, keep, n)
		x.q.crash(t, keep, n)
	case 11, 12, 13, 14, 15, 16, 17, 18, 19, 20:
		conn := r.Intn(x.mine)
		s := mine.next(conn, func() string { return x.p.ofMine(r, me, others) })
		got, want := x.q.hear(t, conn, s), x.p.hear(t, conn, s)
		if got != want {
			t.Fatalf("Hear(%d, %.200q): %.200q, or %.200q", conn, s, got, want)
		}
		counts(t, got, met)
	default:
		conn := x.mine + r.Intn(conns-x.mine)
		x.p.hear(t, conn, p.next(conn, func() string { return x.p.ofOthers(r, me, others) }))
		if !x.empty {
			x.q.hear(t, conn, q.next(conn, func() string { return x.q.ofOthers(r, me, others) }))
		}
	}
}

// ofMine answers a token that is not taken, of nobody, or of this member.
func (p *pair) ofMine(r *rand.Rand, me string, others []string) string {
	if r.Intn(10) == 0 {
		return one(r, p.w.noToken(r, one(r, append(others, me)...)), p.mine("nobody"))
	}
	return p.mine(me)
}

// ofOthers answers a token that is not taken, also such as claims to be this member's, of nobody, or of another member.
func (p *pair) ofOthers(r *rand.Rand, me string, others []string) string {
	if r.Intn(5) == 0 || len(others) == 0 {
		return one(r, p.w.noToken(r, me), p.mine("nobody"))
	}
	return p.mine(one(r, others...))
}

// same asks that the member's tenants are the same on both: what they tell, what they have, how the disks are.
func (x *apart) same(t *testing.T) {
	t.Helper()
	a, b := x.p.s.Tenant(x.who), x.q.s.Tenant(x.who)
	if x.p.s.Down(x.who) != x.q.s.Down(x.who) || (a == nil) != (b == nil) {
		t.Fatal("one is down")
	}
	if state(x.p.disks[x.who]) != state(x.q.disks[x.who]) {
		t.Fatal("the disks are unlike")
	}
	if a == nil {
		return
	}
	if has(a) != has(b) {
		t.Fatalf("it has %s, or %s", has(a), has(b))
	}
	for n := range a.Ledger().Size() + 2 {
		h, e := a.Ledger().Head(n)
		i, f := b.Ledger().Head(n)
		if h != i || e != f {
			t.Fatalf("head %d: %v, error %d, or %v, error %d", n, h, e, i, f)
		}
		for kind := api.AJob; kind <= api.ACurrent; kind++ {
			ask := api.Ask{Kind: kind, A: n, B: a.Ledger().Size()}
			if one, two := a.Do(ask, 0), b.Do(ask, 0); fmt.Sprint(one) != fmt.Sprint(two) {
				t.Fatalf("%+v: %v, or %v", ask, one, two)
			}
		}
	}
}

// P24.6, P3: two rows of deeds by chance that are the same but for what is sent on some connections, where no request bears this member's pass: its own connections are answered the same, and its tenant is the same.
func TestNobodySees(t *testing.T) {
	r := rand.New(rand.NewSource(2410))
	met, entries := map[int]int{}, 0
	for k := range 120 {
		n := 1 + r.Intn(mostMembers)
		l := anyMembers(r, n)
		sectors := 40 + r.Intn(200)
		x := &apart{made(t, l, sectors), made(t, l, sectors), r.Intn(n), 1 + r.Intn(conns-1), k%4 == 0}
		for _, p := range []*pair{x.p, x.q} {
			for _, m := range l {
				p.begins(t, m.Name)
			}
		}
		mine, p, q := &sender{r: r}, &sender{r: r}, &sender{r: r}
		for i := range 250 {
			x.do(t, r, mine, p, q, met)
			if i%40 == 0 {
				x.same(t)
			}
		}
		x.same(t)
		x.p.stands(t)
		x.q.stands(t)
		if a := x.p.s.Tenant(x.who); a != nil {
			entries += a.Ledger().Size()
		}
	}
	often(t, met, 20, 200, 400, 401, 403, 404, 405, 409, 422, 503, 507)
	if entries < 50 {
		t.Errorf("only %d entries", entries)
	}
}

// P24.6: what one member uploads, submits, breaks off or fills up hinders no other one.
func TestNobodyHinders(t *testing.T) {
	p, q := made(t, named(3), 80), made(t, named(3), 80)
	bad := func(k int) {
		t.Helper()
		p.hear(t, 1, ask("PUT", "/uploads/a", p.mine("b"), strings.Repeat("x", 400)))
		p.hear(t, 2, ask("PUT", "/uploads/a", p.mine("b"), "x")[:40+k])
		p.hear(t, 3, "\x00")
		p.hear(t, 4, ask("POST", "/jobs/crowd/echo", p.mine("b"), ""))
		p.hear(t, 5, strings.Repeat(ask("GET", "/usage", "", ""), 20))
		p.hear(t, 6, ask("PUT", "/uploads/a", signed("other", "a", 9), "x"))
	}
	for _, x := range []*pair{p, q} {
		x.knows(t, "b", "crowd", "echo")
	}
	for k, a := range story() {
		bad(k % 50)
		if a.Kind == 0 {
			for range 3 {
				at, tries, done := p.pick(t, a.A)
				if i, j, ok := q.pick(t, a.A); at != i || at == 0 && (tries != j || done != ok) {
					t.Fatalf("Pick: %d, %d, %t, not %d, %d, %t", at, tries, done, i, j, ok)
				}
			}
			continue
		}
		s := printed(t, a, p.mine("a"))
		p.answers(t, 0, s, q.hear(t, 0, s))
	}
	if has(p.s.Tenant(0)) != has(q.s.Tenant(0)) || state(p.disks[0]) != state(q.disks[0]) {
		t.Error("it is another one")
	}
	p.stands(t)
}

// stream answers requests by chance that bear a member's token, one behind the other, now and then with bytes behind them that err; and how many answers there have to be.
func stream(r *rand.Rand, token string) (string, int) {
	all, n := "", 1+r.Intn(12)
	for range n {
		all += anyRequest(r, token)
	}
	if r.Intn(2) == 0 {
		return all, n
	}
	return all + one(r, wrongs()...).s + anyRequest(r, token), n + 1
}

// P24.7: the same bytes, all in one piece, byte by byte, and cut by chance, over several connections in turn: the same answers, one for each request, and one more for the first byte that errs.
func TestOneAnswerEach(t *testing.T) {
	r := rand.New(rand.NewSource(2411))
	for range 60 {
		n := 1 + r.Intn(mostMembers)
		l := anyMembers(r, n)
		whole := made(t, l, 100)
		var streams, want []string
		for k, m := range l {
			s, answers := stream(r, one(r, whole.mine(m.Name), whole.mine(m.Name), whole.mine("nobody"), ""))
			streams = append(streams, s)
			want = append(want, whole.hear(t, k, s))
			if got := counts(t, want[k], map[int]int{}); got != answers {
				t.Fatalf("%q: %d answers, not %d", s, got, answers)
			}
		}
		for _, pieces := range []func(s string) []string{single, func(s string) []string { return cut(r, s) }} {
			p := made(t, l, 100)
			got, left := make([]string, n), make([][]string, n)
			more := 0
			for k, s := range streams {
				left[k] = pieces(s)
				more += len(left[k])
			}
			for ; more > 0; more-- {
				k := r.Intn(n)
				for len(left[k]) == 0 {
					k = (k + 1) % n
				}
				got[k] += p.hear(t, k, left[k][0])
				left[k] = left[k][1:]
			}
			if !slices.Equal(got, want) {
				t.Fatalf("%q, not %q", got, want)
			}
			for k := range n {
				if state(p.disks[k]) != state(whole.disks[k]) {
					t.Fatalf("disk %d is another one", k)
				}
			}
		}
	}
}

// P24.7: requests of one member on several connections, whose last bytes come in one order, whatever comes ahead of these when: the same answers.
func TestLastBytes(t *testing.T) {
	r := rand.New(rand.NewSource(2412))
	for range 60 {
		l := anyMembers(r, 2)
		whole, p := made(t, l, 150), made(t, l, 150)
		type sent struct {
			conn int
			s    string
		}
		var row []sent
		var left [conns]string // what of the next request on a connection was not sent yet
		next := map[int][]string{}
		for range 40 {
			x := sent{r.Intn(5), anyRequest(r, whole.w.anyToken(r, namesOf(l)...))}
			row = append(row, x)
			next[x.conn] = append(next[x.conn], x.s)
		}
		for conn, l := range next {
			left[conn] = l[0]
		}
		for _, x := range row {
			for range r.Intn(8) {
				conn := r.Intn(5)
				n := r.Intn(max(len(left[conn]), 1))
				p.answers(t, conn, left[conn][:n], "")
				left[conn] = left[conn][n:]
			}
			p.answers(t, x.conn, left[x.conn], whole.hear(t, x.conn, x.s))
			left[x.conn] = ""
			if next[x.conn] = next[x.conn][1:]; len(next[x.conn]) > 0 {
				left[x.conn] = next[x.conn][0]
			}
		}
		for k := range l {
			if state(p.disks[k]) != state(whole.disks[k]) {
				t.Fatalf("disk %d is another one", k)
			}
		}
	}
}

// P24.8: rows of deeds in which no request bears a pass that is taken: each tenant is as it was, no step is done on a disk; also behind a crash.
func TestWhoIsNobody(t *testing.T) {
	r := rand.New(rand.NewSource(2413))
	met := map[int]int{}
	for range 80 {
		n := 1 + r.Intn(mostMembers)
		p := made(t, named(n), 200)
		for k := range n {
			p.begins(t, named(n)[k].Name)
			p.asks(t, k, named(n)[k].Name, "POST", "/jobs/a/a", "", 200)
		}
		for range r.Intn(2 * n) {
			p.pick(t, 1000)
		}
		waits := p.waits()
		p.pass(t, r.Intn(9))
		was := p.all()
		for k := range n {
			p.arm(t, k, 0)
		}
		x := &sender{r: r}
		for range 150 {
			switch r.Intn(12) {
			case 0:
				p.pass(t, r.Intn(9))
			case 1:
				p.shut(t, r.Intn(conns))
			case 2:
				if !waits {
					p.pick(t, r.Intn(9))
				}
			case 3:
				p.crash(t, byChance(r, 3), 0)
			default:
				conn := r.Intn(conns)
				s := p.hear(t, conn, x.next(conn, func() string {
					return one(r, p.w.noToken(r, one(r, namesOf(named(n))...)), p.mine("nobody"), p.mine("nobody-else"))
				}))
				counts(t, s, met)
			}
			for k, d := range p.disks {
				if d.Off() {
					t.Fatalf("a step on disk %d", k)
				}
			}
			if got := p.all(); got != was {
				t.Fatalf("they have %s, not %s", got, was)
			}
		}
		p.crash(t, nil, -1)
		if got := p.all(); got != was {
			t.Fatalf("behind a crash they have %s, not %s", got, was)
		}
		p.stands(t)
	}
	often(t, met, 100, 400, 401, 403)
	for code := range met {
		if !slices.Contains([]int{400, 401, 403, 413}, code) {
			t.Errorf("nobody was told %d", code)
		}
	}
}

// all answers what all tenants have, in a text.
func (p *pair) all() string {
	s := ""
	for k := range p.w.members {
		s += has(p.s.Tenant(k))
	}
	return s
}

// waits tells whether a job waits anywhere.
func (p *pair) waits() bool {
	for k := range p.w.members {
		if p.s.Tenant(k).Wants() {
			return true
		}
	}
	return false
}

// P2, P4, P6: jobs of several members come to what the search tells, within as many turns as their tries need, also with crashes in between.
func TestTurnsAreEnough(t *testing.T) {
	r := rand.New(rand.NewSource(2414))
	for range 40 {
		n := 1 + r.Intn(mostMembers)
		p := made(t, named(n), 200)
		tries := 1 + r.Intn(9)
		for k, m := range named(n) {
			p.begins(t, m.Name)
			for _, target := range []string{"/jobs/a/a", "/jobs/b/b", "/jobs/c/c"} {
				p.asks(t, k, m.Name, "POST", target, "", 200)
			}
		}
		if r.Intn(2) == 0 {
			for range r.Intn(30) {
				p.pick(t, tries)
			}
			p.crash(t, nil, -1)
		}
		need := 4 + 400 + 1 // more than the tries of these three
		for range n * (need/tries + 3) {
			p.pick(t, tries)
		}
		if p.waits() {
			t.Fatalf("%d members, %d tries: a job waits", n, tries)
		}
		for _, m := range named(n) {
			for k, want := range []string{"done fits 4 1,0", "done fits-not", "done fits 1 0"} {
				if got := p.asks(t, 0, m.Name, "GET", fmt.Sprint("/jobs/", k), "", 200); !strings.HasPrefix(got, want) {
					t.Errorf("job %d: %s, not %s", k, got, want)
				}
			}
		}
	}
}

// The wrong bytes above are what they are said to be: nothing errs ahead of the last one.
func TestWrongs(t *testing.T) {
	for _, x := range wrongs() {
		want := api.ErrForm
		if x.code == 413 {
			want = api.ErrBig
		}
		if _, _, err := wire.Whole([]byte(x.s)); err != want {
			t.Errorf("%.100q: error %d", x.s, err)
		}
		if _, _, err := wire.Whole([]byte(x.s[:len(x.s)-1])); err != api.ErrShort {
			t.Errorf("%.100q but for a byte: error %d", x.s, err)
		}
	}
}
