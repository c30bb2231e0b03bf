package server_test

import (
	"fmt"
	"math/rand"
	"testing"

	"inquest/api"
	"inquest/route"
	"inquest/tenant"
	"inquest/wire"
)

// alone opens a tenant by itself, as a member of this name has to have it.
func alone(t *testing.T, name string, lim api.Limits, sectors int) *tenant.Tenant {
	t.Helper()
	x, err := tenant.Open(blankDisk(t, sectors), lim, []byte(sum("key", "ledger "+name)))
	must(t, err)
	return x
}

// printed answers the bytes by which something is asked.
func printed(t *testing.T, a api.Ask, token string) string {
	t.Helper()
	x, err := route.Print(a)
	must(t, err)
	x.Token = token
	b, err := wire.Print(x)
	must(t, err)
	return string(b)
}

// story answers asks of all kinds that are done, refused, and done again; a Kind of 0 is a turn with A tries.
func story() []api.Ask {
	var l []api.Ask
	for _, name := range []string{"set", "crowd", "turn"} {
		b := []byte(histories()[name])
		l = append(l, api.Ask{Kind: api.APut, Name: name, Body: b[:1]}, api.Ask{Kind: api.ASeal, Name: name}, api.Ask{Kind: api.APut, Name: name, Body: b[1:]}, api.Ask{Kind: api.APut, Name: name}, api.Ask{Kind: api.ASeal, Name: name}, api.Ask{Kind: api.APut, Name: name, Body: b})
	}
	for _, name := range []string{"cell", "echo"} {
		l = append(l, api.Ask{Kind: api.ASpec, Name: name, Body: []byte("x")}, api.Ask{Kind: api.ASpec, Name: name, Body: []byte(specs()[name])}, api.Ask{Kind: api.ASpec, Name: name})
	}
	for _, a := range []api.Ask{{Name: "set", Spec: "cell"}, {Name: "crowd", Spec: "echo"}, {Name: "turn", Spec: "cell"}, {Name: "none", Spec: "cell"}, {Name: "set", Spec: "none"}, {Name: "set", Spec: "echo"}} {
		a.Kind = api.ASubmit
		l = append(l, a, api.Ask{A: 3}, api.Ask{Kind: api.AJob, A: 0}, api.Ask{Kind: api.AJob, A: 1}, api.Ask{Kind: api.AUsage}, api.Ask{Kind: api.ACurrent})
	}
	for range 4 {
		l = append(l, api.Ask{A: 1000})
	}
	l = append(l, api.Ask{Kind: api.ACurrent}, api.Ask{Kind: api.AUsage}, api.Ask{Kind: api.AJob, A: greatest})
	for a := range 6 {
		l = append(l, api.Ask{Kind: api.AJob, A: a}, api.Ask{Kind: api.AHead, A: a})
		for b := range 6 {
			l = append(l, api.Ask{Kind: api.AEntry, A: a, B: b}, api.Ask{Kind: api.AGrowth, A: a, B: b})
		}
	}
	return l
}

// P24.2: each of the ten kinds of requests is answered as the member's own tenant tells it, at the server's time.
func TestKinds(t *testing.T) {
	met := map[[2]int]int{}
	for n := 1; n <= mostMembers; n += 3 {
		for k, m := range named(n) {
			p := made(t, named(n), 200)
			x := alone(t, m.Name, wide, 200)
			for i, a := range story() {
				p.pass(t, i)
				if a.Kind == 0 {
					tries, done := x.Step(a.A)
					for range n {
						if at, j, ok := p.pick(t, a.A); at == k && (j != tries || ok != done) {
							t.Fatalf("Pick: %d, %t, not %d, %t", j, ok, tries, done)
						}
					}
					continue
				}
				want := x.Do(a, p.s.Now())
				p.tells(t, i%conns, printed(t, a, p.mine(m.Name)), want.Code, string(want.Body))
				met[[2]int{a.Kind, want.Code}]++
			}
			if got := p.s.Tenant(k); has(got) != has(x) {
				t.Errorf("%s has %s, not %s", m.Name, has(got), has(x))
			}
			p.stands(t)
		}
	}
	for kind, codes := range map[int][]int{
		api.APut: {200, 409}, api.ASeal: {200, 422}, api.ASpec: {200, 409, 422}, api.ASubmit: {200, 404}, api.AJob: {200, 404},
		api.AHead: {200, 404}, api.AEntry: {200, 404}, api.AGrowth: {200, 404}, api.AUsage: {200}, api.ACurrent: {200},
	} {
		for _, code := range codes {
			often(t, met, 1, [2]int{kind, code})
		}
	}
}

// P24.2: a member's requests come to its own tenant alone, in whatever order those of two, or of more, come, on one connection and on several.
func TestOwnTenant(t *testing.T) {
	r := rand.New(rand.NewSource(2404))
	for range 60 {
		n := 2 + r.Intn(mostMembers-1)
		p := made(t, named(n), 200)
		var all []*tenant.Tenant
		at := make([]int, n)
		for _, m := range named(n) {
			all = append(all, alone(t, m.Name, wide, 200))
		}
		several := r.Intn(2) == 0
		for range 40 * n {
			k := r.Intn(n)
			a := story()[at[k]%len(story())]
			at[k]++
			if a.Kind == 0 {
				continue
			}
			conn := 3
			if several {
				conn = r.Intn(conns)
			}
			want := all[k].Do(a, 0)
			p.tells(t, conn, printed(t, a, p.mine(named(n)[k].Name)), want.Code, string(want.Body))
		}
		for k, x := range all {
			if has(p.s.Tenant(k)) != has(x) {
				t.Fatalf("member %d has %s, not %s", k, has(p.s.Tenant(k)), has(x))
			}
		}
		p.stands(t)
	}
}

// P24.2: two members' requests, in all orders in which each one's own ones stay as they are, in one piece and one by one, on one connection and on two.
func TestTwoMembers(t *testing.T) {
	row := []api.Ask{
		{Kind: api.APut, Name: "set", Body: []byte(histories()["set"])}, {Kind: api.ASeal, Name: "set"}, {Kind: api.ASpec, Name: "none", Body: []byte(specs()["none"])},
		{Kind: api.ASubmit, Name: "set", Spec: "none"}, {Kind: api.AUsage},
	}
	x := alone(t, "a", wide, 60)
	var want []string
	for _, a := range row {
		told := x.Do(a, 0)
		want = append(want, answered(told.Code, string(told.Body)))
	}
	for set := range 1 << (2 * len(row)) {
		at, order := [2]int{}, []int{}
		for k := range 2 * len(row) {
			who := set >> k & 1
			if at[who] < len(row) {
				order = append(order, who)
				at[who]++
			}
		}
		if len(order) < 2*len(row) {
			continue
		}
		one, each, two := made(t, named(2), 60), made(t, named(2), 60), made(t, named(2), 60)
		at = [2]int{}
		all, answers := "", ""
		for _, who := range order {
			s := printed(t, row[at[who]], one.mine(named(2)[who].Name))
			each.answers(t, 0, s, want[at[who]])
			two.answers(t, who, s, want[at[who]])
			all += s
			answers += want[at[who]]
			at[who]++
		}
		one.answers(t, 9, all, answers)
		for _, p := range []*pair{one, each, two} {
			p.stands(t)
		}
	}
}

// P24.2: bodies as long as they may be, by their length and in chunks of all kinds of sizes, come whole to the tenant.
func TestBodies(t *testing.T) {
	p := made(t, named(1), 4000)
	for k, n := range []int{0, 1, 2, 63, 64, 65, 1000, 2047, 2048} {
		b := make([]byte, n)
		rand.New(rand.NewSource(int64(n))).Read(b)
		for _, size := range []int{0, 1, 16, 2048} {
			name := fmt.Sprintf("a%d-%d", k, size)
			s := ask("PUT", "/uploads/"+name, p.mine("a"), string(b))
			if size > 0 {
				s = chunked("PUT", "/uploads/"+name, p.mine("a"), string(b), size)
			}
			p.tells(t, k, s, 200, fmt.Sprint(n))
			if got, ok := p.s.Tenant(0).Store().Get("u/" + name); !ok || string(got) != string(b) {
				t.Errorf("%d bytes: %q", n, got)
			}
		}
	}
	for range 2 {
		p.asks(t, 0, "a", "PUT", "/uploads/full", string(make([]byte, 2048)), 200)
	}
	p.asks(t, 0, "a", "PUT", "/uploads/full", "x", 413)
	p.asks(t, 0, "a", "PUT", "/uploads/full", "", 200)
	p.stands(t)
}
