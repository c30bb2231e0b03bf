package tenant_test

import (
	"fmt"
	"math/rand"
	"testing"

	"inquest/api"
	"inquest/tenant"
)

// anyNumber answers a number near those that a tenant has, now and then any number.
func anyNumber(r *rand.Rand, most int) int {
	if r.Intn(15) == 0 {
		return []int{least, greatest, -2, 63, 64, 65, int(r.Uint64())}[r.Intn(7)]
	}
	return r.Intn(most+3) - 1
}

// pick answers one of these, or another one by chance.
func pick(r *rand.Rand, l []string) string {
	others := []string{"a", "b", "c", "cell", "set", "gone", "", "A", "a b", "a2345678901234567"}
	if len(l) == 0 || r.Intn(6) == 0 {
		return others[r.Intn(len(others))]
	}
	return l[r.Intn(len(l))]
}

// anyAsk answers an ask by chance, often one that is done where the tenant has this; or a Step (Kind 0).
func anyAsk(r *rand.Rand, w *words) api.Ask {
	entries := len(w.entries)
	a := api.Ask{Kind: r.Intn(12), A: anyNumber(r, entries), B: anyNumber(r, entries)}
	if r.Intn(3) == 0 {
		a.Kind = []int{0, api.ASubmit}[r.Intn(2)]
	}
	switch a.Kind {
	case 0:
		a.A = r.Intn(30) - 2
	case api.APut:
		a.Name = pick(r, append(sorted(w.uploads), "a", "b", fmt.Sprintf("n%d", r.Intn(99))))
		a.Body = anyBody(r, histories())
	case api.ASeal:
		a.Name = pick(r, sorted(w.uploads))
	case api.ASpec:
		a.Name = pick(r, []string{fmt.Sprintf("n%d", r.Intn(99))})
		a.Body = anyBody(r, specs())
	case api.ASubmit:
		a.Name, a.Spec = pick(r, sorted(w.histories)), pick(r, sorted(w.specs))
	case api.AJob:
		a.A = anyNumber(r, len(w.jobs))
	}
	return a
}

// anyBody answers one of these, or bytes by chance; now and then a great many.
func anyBody(r *rand.Rand, samples map[string][]byte) []byte {
	switch r.Intn(12) {
	case 0:
		return make([]byte, r.Intn(5000))
	case 1:
		b := make([]byte, r.Intn(6))
		r.Read(b)
		return b
	}
	names := sorted(samples)
	return samples[names[r.Intn(len(names))]]
}

// event is a kind of ask and its status.
type event struct{ kind, code int }

// anyRow does a row of calls by chance, and holds them against the words: asks, Steps, the power off and on, the tenant opened anew with other limits.
func (p *pair) anyRow(t *testing.T, r *rand.Rand, n int, met map[event]int) {
	t.Helper()
	for k := range n {
		switch r.Intn(60) {
		case 0:
			p.arm(t, r.Intn(40))
		case 1:
			lim := api.Limits{Quota: p.w.lim.Quota, Queue: 1 + r.Intn(8), Fuel: r.Intn(60), Budget: r.Intn(40)}
			p.anew(t, lim)
		}
		a := anyAsk(r, p.w)
		now := r.Intn(1 << r.Intn(41))
		if r.Intn(8) == 0 {
			now = []int{-1, mostTime, mostTime + 1, least, greatest}[r.Intn(5)]
		}
		if a.Kind == 0 {
			_, done := p.step(t, a.A)
			met[event{0, map[bool]int{true: 200, false: 0}[done]}]++
		} else {
			met[event{a.Kind, p.do(t, a, now)}]++
		}
		if p.d.Off() {
			p.stands(t)
			must(t, p.d.Crash(nil))
			p.w.steps = -1
			p.anew(t, p.w.lim)
			p.stands(t)
		}
		if k%50 == 0 {
			p.stands(t)
		}
	}
}

// P22.1 to P22.6: rows of calls by chance, held against the chapter's words.
func TestRowsByChance(t *testing.T) {
	r := rand.New(rand.NewSource(2207))
	met := map[event]int{}
	for range 120 {
		lim := api.Limits{Quota: r.Intn(12000), Queue: 1 + r.Intn(8), Fuel: r.Intn(60), Budget: r.Intn(40)}
		p := made(t, lim, 50+r.Intn(1000))
		ss := specs()
		for _, name := range sorted(ss) {
			p.do(t, api.Ask{Kind: api.ASpec, Name: name, Body: ss[name]}, 0)
		}
		p.anyRow(t, r, r.Intn(800), met)
		p.stands(t)
		p.samples(t, r, 30)
	}
	for kind, codes := range map[int][]int{
		0: {0, 200}, api.APut: {200, 400, 409, 413, 503, 507}, api.ASeal: {200, 400, 404, 409, 422, 503, 507}, api.ASpec: {200, 400, 409, 422, 503, 507},
		api.ASubmit: {200, 400, 404, 429, 503, 507}, api.AJob: {200, 404}, api.AHead: {200, 404}, api.AEntry: {200, 404}, api.AGrowth: {200, 404}, api.AUsage: {200}, api.ACurrent: {200}, 11: {400},
	} {
		for _, code := range codes {
			often(t, met, 5, event{kind, code})
		}
	}
}

// isNothing asks a tenant that Open did not make for everything.
func isNothing(t *testing.T, x *tenant.Tenant, a api.Ask, now int) {
	t.Helper()
	if got := x.Do(a, now); got.Code != 503 || len(got.Body) != 0 {
		t.Fatalf("Do of %+v at %d: %d %q", a, now, got.Code, got.Body)
	}
	if n, done := x.Step(now); n != 0 || done {
		t.Fatalf("Step(%d): %d, %t", now, n, done)
	}
	if x.Wants() || x.Ledger() != nil || x.Store() != nil {
		t.Fatalf("wants %t, ledger %v, store %v", x.Wants(), x.Ledger(), x.Store())
	}
}

// P22.3, R1: of a tenant that Open did not make Do tells 503, Step 0 and false, Wants false, the others nil, whatever is handed in.
func TestNotMade(t *testing.T) {
	r := rand.New(rand.NewSource(2208))
	for _, x := range []*tenant.Tenant{nil, new(tenant.Tenant), {}} {
		for kind := -2; kind < 14; kind++ {
			for _, now := range []int{0, 1, -1, mostTime + 1, least, greatest} {
				isNothing(t, x, api.Ask{Kind: kind}, now)
				isNothing(t, x, api.Ask{Kind: kind, Name: "a", Spec: "s", Body: []byte{0}, A: 0, B: 1}, now)
				isNothing(t, x, api.Ask{Kind: kind, Name: "A", Body: make([]byte, 5000), A: now, B: now}, now)
			}
		}
		for range 300 {
			isNothing(t, x, anyAsk(r, nothing(wide, "", 1)), int(r.Uint64()))
		}
	}
}

// R1: no panic comes out of the package, whatever is handed in.
func TestNoPanic(t *testing.T) {
	r := rand.New(rand.NewSource(2209))
	p := made(t, api.Limits{Quota: 1 << 20, Queue: mostWait, Fuel: 60, Budget: 60}, 4000)
	p.knows(t)
	letters := []string{"", "a", "set", "cell", "\x00", "\xff\xfe", "j/00", "../a", "set cell 5", string(make([]byte, 1<<16))}
	for range 4000 {
		a := api.Ask{Kind: anyNumber(r, 10), Name: letters[r.Intn(len(letters))], Spec: letters[r.Intn(len(letters))], A: int(r.Uint64()) >> r.Intn(64), B: int(r.Uint64()) >> r.Intn(64)}
		a.Body = make([]byte, r.Intn(4200)>>r.Intn(13))
		r.Read(a.Body)
		p.do(t, a, int(r.Uint64())>>r.Intn(64))
		if r.Intn(10) == 0 {
			p.step(t, int(r.Uint64())>>r.Intn(64))
		}
	}
	p.do(t, api.Ask{Kind: api.APut, Name: "a", Body: make([]byte, 1<<22)}, 0)
	p.do(t, api.Ask{Kind: api.ASpec, Name: "a", Body: make([]byte, 1<<22)}, 0)
	p.stands(t)
}

// R1: no panic comes out of the package where somebody changes the store or the ledger that is handed out, though nobody is to.
func TestNoPanicOfChanged(t *testing.T) {
	for key := range right() {
		for _, value := range []string{"", "x", right()["e/01"]} {
			x := opened(t, laid(t, 400, right()), wide, nil)
			x.Store().Commit([]api.Change{put(key, value)})
			for range 3 {
				x.Step(3)
				for kind := range 12 {
					x.Do(api.Ask{Kind: kind, Name: "set", Spec: "cell", A: 1, B: 2}, 5)
				}
				x.Store().Commit([]api.Change{del(key)})
				x.Ledger().Add(api.Entry{Job: x.Ledger().Size(), Verdict: api.Verdict{Kind: api.Fits}})
			}
			x.Step(greatest)
		}
	}
}
