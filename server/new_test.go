package server_test

import (
	"fmt"
	"math/rand"
	"slices"
	"strings"
	"testing"

	"inquest/api"
	"inquest/disk"
	"inquest/ledger"
	"inquest/server"
	"inquest/store"
	"inquest/tenant"
)

// torn answers a disk of 40 sectors on which an Open has something to do: an Append was cut off there.
func torn(t *testing.T) *disk.Disk {
	t.Helper()
	d := blankDisk(t, 40)
	s, err := store.Open(d, 1000)
	must(t, err)
	must(t, d.Arm(3))
	if err := s.Commit([]api.Change{{Key: "u/a", Value: []byte(strings.Repeat("a", 400))}, {Key: "u/b", Value: []byte(strings.Repeat("b", 400))}}); err != api.ErrPower {
		t.Fatal(err)
	}
	must(t, d.Crash([]bool{true, true, true}))
	if bytesOf(t, d) == bytesOf(t, blankDisk(t, 40)) {
		t.Fatal("nothing is left there")
	}
	return d
}

// refuses asks for ErrArg, for no server beside it, and that nothing is changed.
func refuses(t *testing.T, what any, l []api.Member, disks []*disk.Disk) {
	t.Helper()
	wasMembers, wasDisks := slices.Clone(l), slices.Clone(disks)
	var was []string
	for _, d := range disks {
		was = append(was, state(d))
	}
	if s, err := server.New([]byte("key"), l, disks); s != nil || err != api.ErrArg {
		t.Errorf("New of %v: a server %t, error %d", what, s != nil, err)
	}
	if !slices.Equal(l, wasMembers) || !slices.Equal(disks, wasDisks) {
		t.Errorf("New of %v changes what is handed in", what)
	}
	for k, d := range disks {
		if state(d) != was[k] {
			t.Errorf("New of %v changes a disk", what)
		}
	}
}

// P24.1: the chapter's examples.
func TestExamples(t *testing.T) {
	d := blankDisk(t, 60)
	s, err := server.New([]byte("key"), []api.Member{{Name: "a", Limits: api.Limits{Queue: 1}}}, []*disk.Disk{d})
	must(t, err)
	mine, err := s.Mint("a", 9)
	must(t, err)
	other, err := s.Mint("b", 9)
	must(t, err)
	for _, x := range []struct {
		token string
		want  string
	}{
		{mine, "HTTP/1.1 200 OK\r\nContent-Length: 7\r\n\r\n0 0 0 0"},
		{"", "HTTP/1.1 401 Unauthorized\r\nContent-Length: 0\r\n\r\n"},
		{other, "HTTP/1.1 403 Forbidden\r\nContent-Length: 0\r\n\r\n"},
	} {
		if got := s.Hear(0, []byte(ask("GET", "/usage", x.token, ""))); string(got) != x.want {
			t.Errorf("%q: %q, not %q", x.token, got, x.want)
		}
	}
	if got, want := string(s.Hear(1, []byte{0})), answered(400, ""); got != want {
		t.Errorf("byte 0: %q, not %q", got, want)
	}
	if got := s.Hear(1, []byte(ask("GET", "/usage", mine, ""))); len(got) > 0 {
		t.Errorf("behind byte 0: %q", got)
	}
}

// P24.1: 1 to 8 members, and as many disks; else ErrArg, and no disk is touched.
func TestNewCounts(t *testing.T) {
	all := members("a", "b", "c", "d", "e", "f", "g", "h", "i", "j")
	for n := range 11 {
		for m := range 11 {
			if n >= 1 && n <= mostMembers && m == n {
				p := made(t, all[:n], 9)
				for k := range n {
					p.tells(t, k, ask("GET", "/usage", p.mine(all[k].Name), ""), 200, "0 1073741824 0 0")
				}
				continue
			}
			refuses(t, fmt.Sprint(n, " members, ", m, " disks"), all[:n], blankDisks(t, m, 9))
			disks := blankDisks(t, m, 9)
			for k := range disks {
				disks[k] = torn(t)
				must(t, disks[k].Arm(0))
			}
			refuses(t, fmt.Sprint(n, " members, ", m, " torn disks"), all[:n], disks)
			for k, d := range disks {
				if d.Off() {
					t.Errorf("%d members, %d disks: a step on disk %d", n, m, k)
				}
			}
		}
	}
	for _, l := range [][]api.Member{nil, {}} {
		for _, disks := range [][]*disk.Disk{nil, {}, {nil}, blankDisks(t, 1, 1)} {
			refuses(t, fmt.Sprint(l, disks), l, disks)
		}
	}
	refuses(t, "no disks", all[:1], nil)
	refuses(t, "very many members", make([]api.Member, 1<<20), make([]*disk.Disk, 1<<20))
	many := []api.Member{}
	for k := range 1 << 17 {
		many = append(many, api.Member{Name: fmt.Sprintf("a%d", k), Limits: wide})
	}
	refuses(t, "very many names", many, make([]*disk.Disk, 1<<17))
}

// noNames are texts that are no names.
func noNames() []string {
	return []string{"", "A", "1", "1a", "-a", "a_b", "a b", " a", "a ", "a/b", "a.b", "a\n", "\x00", "a\x00", "é", "a2345678901234567", strings.Repeat("a", 1000)}
}

// names are names, from the shortest to the longest.
func names() []string {
	return []string{"a", "z", "a0", "a-", "z9-", "abcdefghijklmno", "a234567890123456", "a---------------"}
}

// P24.1: members whose names are none: ErrArg, at whatever place.
func TestNewNames(t *testing.T) {
	for n := 1; n <= mostMembers; n++ {
		for _, name := range noNames() {
			for k := range n {
				l := slices.Clone(named(n))
				l[k].Name = name
				refuses(t, l, l, blankDisks(t, n, 1))
			}
		}
	}
	for k := range names() {
		l := append(members(names()[k:]...), members(names()[:k]...)...)
		p := made(t, l, 9)
		for _, m := range l {
			p.asks(t, k, m.Name, "GET", "/head", "", 200)
		}
	}
}

// P24.1: no name stands there twice: ErrArg, at whatever two places; names that are nearly alike are two.
func TestNewTwice(t *testing.T) {
	for n := 2; n <= mostMembers; n++ {
		for k := range n {
			for m := range k {
				l := slices.Clone(named(n))
				l[k].Name = l[m].Name
				refuses(t, l, l, blankDisks(t, n, 1))
				l[k].Limits = api.Limits{}
				refuses(t, l, l, blankDisks(t, n, 1))
			}
		}
	}
	l := members("a", "aa", "a-", "a0", "b", "ab", "ba", "a12345678901234")
	p := made(t, l, 60)
	for k, m := range l {
		p.asks(t, k, m.Name, "PUT", "/uploads/"+m.Name, strings.Repeat("x", k), 200)
		p.stands(t)
	}
}

// keys are keys of all lengths that matter.
func keys() []string {
	return []string{"", "k", "key", "\x00", "key\x00", strings.Repeat("k", 63), strings.Repeat("k", 64), strings.Repeat("k", 65), strings.Repeat("k", 200)}
}

// P24.1: whatever the key is, tokens are signed by a key that is made of it for tokens, heads by one that is made of it for the member's ledger.
func TestNewKeys(t *testing.T) {
	for _, key := range keys() {
		l := members("a", "b")
		p := served(t, key, l, blankDisks(t, 2, 60), blankDisks(t, 2, 60))
		for k, name := range []string{"a", "b"} {
			p.knows(t, name, "set", "cell")
			p.asks(t, 0, name, "POST", "/jobs/set/cell", "", 200)
			p.pick(t, 100)
			for n := range 2 {
				h, err := p.s.Tenant(k).Ledger().Head(n)
				must(t, err)
				for _, by := range []string{key, sum(key, "ledger a"), sum(key, "ledger b"), sum(key, "ledger"), sum(key, "ledger "), sum(key, "token"), sum(key, name), "", "key"} {
					if got, want := ledger.Signed([]byte(by), h), by == sum(key, "ledger "+name); got != want {
						t.Errorf("key %q, the head of %d of %s by %x: %t", key, n, name, by, got)
					}
				}
			}
		}
		p.stands(t)
	}
	s, err := server.New(nil, named(1), blankDisks(t, 1, 9))
	must(t, err)
	if got, _ := s.Mint("a", 5); got != signed(sum("", "token"), "a", 5) {
		t.Errorf("a nil key: %q", got)
	}
}

// P24.1: Mint is token.Mint by the key for tokens, with its errors.
func TestMint(t *testing.T) {
	for _, key := range keys() {
		p := served(t, key, named(2), blankDisks(t, 2, 9), blankDisks(t, 2, 9))
		for _, name := range append(append(noNames(), names()...), "b", "nobody") {
			for _, expiry := range []int{least, -1, 0, 1, 5, mostTime - 1, mostTime, mostTime + 1, greatest} {
				want, wantErr := p.w.mint(name, expiry)
				got, err := p.s.Mint(name, expiry)
				if got != want || err != wantErr {
					t.Fatalf("Mint(%q, %d): %q, error %d, not %q, error %d", name, expiry, got, err, want, wantErr)
				}
				if expiry > 0 && expiry <= mostTime && goodName.MatchString(name) {
					p.tells(t, 3, ask("GET", "/none", got, ""), map[bool]int{true: 404, false: 403}[name == "a" || name == "b"], "")
				}
			}
		}
		if _, err := p.s.Mint("A", -1); err != api.ErrArg {
			t.Errorf("error %d", err)
		}
	}
}

// P24.1: the time at first is 0, no member is down, and the tenants have what is on their disks, each on the one at its own place.
func TestNewOpens(t *testing.T) {
	for n := 1; n <= mostMembers; n++ {
		disks, twins := blankDisks(t, n, 60), blankDisks(t, n, 60)
		for k, m := range named(n) {
			for _, d := range []*disk.Disk{disks[k], twins[k]} {
				x, err := tenant.Open(d, wide, []byte(sum("key", "ledger "+m.Name)))
				must(t, err)
				for _, a := range []api.Ask{
					{Kind: api.APut, Name: m.Name, Body: []byte(histories()["turn"])}, {Kind: api.ASeal, Name: m.Name},
					{Kind: api.ASpec, Name: "cell", Body: []byte(specs()["cell"])}, {Kind: api.ASubmit, Name: m.Name, Spec: "cell"},
					{Kind: api.ASubmit, Name: m.Name, Spec: "cell"},
				} {
					if told := x.Do(a, k); told.Code != 200 {
						t.Fatal(told)
					}
				}
				x.Step(100)
			}
		}
		p := served(t, "key", named(n), disks, twins)
		if p.s.Now() != 0 {
			t.Errorf("Now: %d", p.s.Now())
		}
		for _, m := range named(n) {
			p.asks(t, 0, m.Name, "POST", "/histories/"+m.Name, "", 409)
			p.tells(t, 1, ask("GET", "/jobs/0", p.mine(m.Name), ""), 200, "done fits 4 1,0")
			p.tells(t, 1, ask("GET", "/jobs/1", p.mine(m.Name), ""), 200, "waiting")
		}
		for range n {
			p.pick(t, 100)
		}
		p.stands(t)
	}
}

// P24.1: each member's tenant has its own limits.
func TestNewLimits(t *testing.T) {
	l := []api.Member{
		{Name: "a", Limits: api.Limits{Quota: 1000, Queue: 1, Fuel: 100, Budget: 100}},
		{Name: "b", Limits: api.Limits{Quota: 2000, Queue: 2, Fuel: 1, Budget: 100}},
		{Name: "c", Limits: api.Limits{Quota: 3000, Queue: 3, Fuel: 100, Budget: 1}},
		{Name: "d", Limits: api.Limits{Quota: 0, Queue: 8, Fuel: 0, Budget: 0}},
	}
	p := made(t, l, 60)
	for k, name := range []string{"a", "b", "c"} {
		p.knows(t, name, "turn", "cell")
		for range k + 1 {
			p.asks(t, k, name, "POST", "/jobs/turn/cell", "", 200)
		}
		p.asks(t, k, name, "POST", "/jobs/turn/cell", "", 429)
	}
	p.asks(t, 3, "d", "PUT", "/uploads/turn", "x", 507)
	for range 4 {
		p.pick(t, 1000)
	}
	for name, want := range map[string]string{"a": "done fits 4 1,0", "b": "done out-of-fuel 1 -", "c": "done out-of-tries 1 -"} {
		p.tells(t, 0, ask("GET", "/jobs/0", p.mine(name), ""), 200, want)
	}
	for name, want := range map[string]string{"a": " 1000 0 1", "b": " 2000 1 1", "c": " 3000 2 1", "d": "0 0 0 0"} {
		if got := p.asks(t, 1, name, "GET", "/usage", "", 200); !strings.HasSuffix(got, want) {
			t.Errorf("%s: %s", name, got)
		}
	}
	p.stands(t)
}

// broken is a member that is down, and why.
type broken struct {
	what string
	lim  api.Limits
	disk func() *disk.Disk
}

// allBroken answers members that are down.
func allBroken(t *testing.T) []broken {
	blank := func() *disk.Disk { return blankDisk(t, 60) }
	holding := func(key, value string) func() *disk.Disk {
		return func() *disk.Disk {
			d := blank()
			s, err := store.Open(d, 1000)
			must(t, err)
			must(t, s.Commit([]api.Change{{Key: key, Value: []byte(value)}}))
			return d
		}
	}
	l := []broken{
		{"no disk", wide, func() *disk.Disk { return nil }},
		{"a disk that New did not make", wide, func() *disk.Disk { return new(disk.Disk) }},
		{"a disk that is off", wide, func() *disk.Disk {
			d := blank()
			must(t, d.Arm(0))
			d.Sync()
			return d
		}},
		{"a disk that is off when a step is due", wide, func() *disk.Disk {
			d := torn(t)
			must(t, d.Arm(0))
			return d
		}},
		{"a disk that rotted", wide, func() *disk.Disk {
			d := blank()
			must(t, d.Write(0, []byte("rotten")))
			return d
		}},
		{"a key that no tenant has", wide, holding("x", "")},
		{"a history that is none", wide, holding("h/a", "\x01")},
		{"a job of nothing", wide, holding("j/00", fmt.Sprintf("%-160s", "a b 5"))},
	}
	for _, lim := range []api.Limits{
		{Quota: -1, Queue: 1}, {Quota: least, Queue: 1}, {Queue: 0}, {Queue: 9}, {Queue: -1}, {Queue: greatest}, {Queue: 1, Fuel: -1}, {Queue: 1, Fuel: 10001},
		{Queue: 1, Budget: -1}, {Queue: 1, Budget: 1<<30 + 1}, {Queue: 1, Budget: greatest}, {Quota: least, Queue: least, Fuel: least, Budget: least}, {},
	} {
		l = append(l, broken{fmt.Sprintf("%+v", lim), lim, blank})
	}
	return l
}

// P24.1: a member whose tenant can't be opened is down, and no other one is, at whatever place; New is OK all the same.
func TestNewDown(t *testing.T) {
	for _, b := range allBroken(t) {
		for n := 1; n <= mostMembers; n += 1 + n/4 {
			for k := range n {
				l := slices.Clone(named(n))
				l[k].Limits = b.lim
				disks, twins := blankDisks(t, n, 60), blankDisks(t, n, 60)
				disks[k], twins[k] = b.disk(), b.disk()
				p := served(t, "key", l, disks, twins)
				if !p.s.Down(k) || p.s.Tenant(k) != nil {
					t.Fatalf("%s: not down", b.what)
				}
				for m := range n {
					if p.s.Down(m) != (m == k) {
						t.Fatalf("%s: member %d of %d is down, or up", b.what, m, n)
					}
					p.asks(t, m, l[m].Name, "GET", "/usage", "", map[bool]int{true: 503, false: 200}[m == k])
					p.asks(t, m, l[m].Name, "PUT", "/uploads/a", "x", map[bool]int{true: 503, false: 200}[m == k])
					if at, tries, done := p.pick(t, 5); at != m || tries != 0 || done {
						t.Fatalf("%s: Pick: %d, %d, %t", b.what, at, tries, done)
					}
				}
				p.stands(t)
			}
		}
	}
}

// P24.1: all members may be down, each for its own reason.
func TestNewAllDown(t *testing.T) {
	r := rand.New(rand.NewSource(2401))
	all := allBroken(t)
	for range 100 {
		n := 1 + r.Intn(mostMembers)
		l := slices.Clone(named(n))
		disks, twins := make([]*disk.Disk, n), make([]*disk.Disk, n)
		for k := range n {
			b := all[r.Intn(len(all))]
			l[k].Limits, disks[k], twins[k] = b.lim, b.disk(), b.disk()
		}
		p := served(t, "key", l, disks, twins)
		for k := range n {
			p.asks(t, k, l[k].Name, "GET", "/head", "", 503)
			p.asks(t, k, l[k].Name, "GET", "/none", "", 404)
			p.pick(t, 3)
			p.arm(t, k, 3)
		}
		p.stands(t)
		p.crash(t, nil, -1)
		p.stands(t)
	}
}
