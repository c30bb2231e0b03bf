package tenant_test

import (
	"crypto/sha256"
	"fmt"
	"math/rand"
	"testing"

	"inquest/api"
	"inquest/entry"
)

// P22.3: where no job waits Step does nothing, whatever n is.
func TestStepNothing(t *testing.T) {
	p := made(t, wide, 400)
	for range 3 {
		for _, n := range []int{0, 1, -1, 5, least, greatest} {
			if k, done := p.step(t, n); k != 0 || done {
				t.Fatalf("Step(%d): %d, %t", n, k, done)
			}
		}
		p.stands(t)
		if len(p.w.specs) == 0 {
			p.knows(t)
			continue
		}
		p.submits(t, asked{"set", "cell", 5})
		p.all(t)
	}
}

// cases goes through jobs of all kinds, with fuel and budgets that matter, each in a tenant of its own in which it waits.
func cases(t *testing.T, f func(p pair, whole api.Verdict)) {
	t.Helper()
	for history, h := range histories() {
		for name, s := range specs() {
			lim := api.Limits{Quota: 1 << 30, Queue: 3, Fuel: 6, Budget: mostTries}
			whole := search{string(h), string(s), lim.Fuel, lim.Budget}.whole()
			if whole.Tries > 500 {
				continue
			}
			for _, fuel := range []int{0, 1, 2, 3, 4, 5, 6, mostFuel} {
				for _, budget := range []int{0, 1, whole.Tries - 1, whole.Tries, whole.Tries + 1, mostTries} {
					lim.Fuel, lim.Budget = fuel, max(budget, 0)
					p := made(t, lim, 60)
					p.done(t, api.Ask{Kind: api.ASpec, Name: name, Body: s}, api.Ask{Kind: api.APut, Name: history, Body: h}, api.Ask{Kind: api.ASeal, Name: history})
					p.submits(t, asked{history, name, 77})
					f(p, p.w.verdict(p.w.jobs[0]))
				}
			}
		}
	}
}

// entryIs asks for the first entry, whose text another program's sums are in.
func (p *pair) entryIs(t *testing.T, v api.Verdict) {
	t.Helper()
	j := p.w.jobs[0]
	b, err := p.x.Ledger().Text(0)
	must(t, err)
	e, err := entry.Decode(b)
	must(t, err)
	want := api.Entry{Time: j.time, History: sha256.Sum256([]byte(p.w.histories[j.history])), Spec: sha256.Sum256([]byte(p.w.specs[j.spec])), Verdict: v}
	if fmt.Sprint(e) != fmt.Sprint(want) {
		t.Fatalf("entry %v, not %v", e, want)
	}
}

// P22.3, P22.5: jobs with all verdicts, in one piece and try by try, with budgets of just enough and one less, with little fuel and with more.
func TestStepCases(t *testing.T) {
	met := map[int]int{}
	cases(t, func(p pair, whole api.Verdict) {
		q := p.dark(t, greatest)
		if n, done := q.step(t, greatest); n != whole.Tries || !done {
			t.Fatalf("Step: %d, %t, not %d", n, done, whole.Tries)
		}
		q.entryIs(t, whole)
		for n := range max(whole.Tries, 1) {
			for _, none := range []int{0, -1, least} {
				if whole.Tries > 0 {
					if k, done := p.step(t, none); k != 0 || done {
						t.Fatalf("Step(%d): %d, %t", none, k, done)
					}
				}
			}
			k, done := p.step(t, 1)
			if k != min(1, whole.Tries) || done != (n+1 >= whole.Tries) {
				t.Fatalf("try %d of %d: %d, %t", n, whole.Tries, k, done)
			}
		}
		p.entryIs(t, whole)
		p.stands(t)
		q.w.steps = -1
		if fmt.Sprint(p.x.Ledger().Texts()) != fmt.Sprint(q.x.Ledger().Texts()) {
			t.Fatal("the entries are not the same")
		}
		met[whole.Kind]++
	})
	often(t, met, 100, api.Fits, api.FitsNot, api.OutFuel, api.OutTry)
}

// P22.3: what is known without a try is told by any Step: of 0 tries, and of fewer.
func TestStepWithoutTries(t *testing.T) {
	for _, n := range []int{0, -1, 1, 9, least, greatest} {
		for _, x := range []struct {
			history, line string
			budget        int
		}{
			{"empty", "fits 0 -", 0}, {"empty", "fits 0 -", 9}, {"open", "fits 0 -", 0}, {"open", "fits 0 -", 9}, {"set", "out-of-tries 0 -", 0}, {"great", "out-of-tries 0 -", 0},
		} {
			lim := wide
			lim.Budget = x.budget
			p := made(t, lim, 400)
			p.knows(t)
			p.submits(t, asked{x.history, "cell", 5})
			if k, done := p.step(t, n); k != 0 || !done {
				t.Fatalf("Step(%d): %d, %t", n, k, done)
			}
			p.tells(t, api.Ask{Kind: api.AJob}, 0, 200, "done "+x.line)
			p.stands(t)
		}
	}
}

// P22.3, P22.5: pieces of all sizes, and by chance: in sum the same number of tries, and the same entry.
func TestStepPieces(t *testing.T) {
	r := rand.New(rand.NewSource(2203))
	for _, x := range []asked{{"crowd", "cell", 5}, {"wrong", "echo", 5}, {"crowd", "none", 5}, {"crowd", "echo", 5}, {"turn", "cell", 5}, {"great", "echo", 5}} {
		lim := api.Limits{Quota: 1 << 30, Queue: 1, Fuel: 60, Budget: 700}
		for size := range 60 {
			p := made(t, lim, 400)
			p.knows(t)
			p.submits(t, x)
			whole := p.w.verdict(x)
			sum, over := 0, false
			for !over {
				n := size
				if size == 0 {
					n = r.Intn(50) - 5
				}
				k, done := p.step(t, n)
				sum, over = sum+k, done
			}
			if sum != whole.Tries {
				t.Fatalf("%v: %d tries in pieces of %d, not %d", x, sum, size, whole.Tries)
			}
			p.entryIs(t, whole)
			p.stands(t)
		}
	}
}

// P22.3: the first that was asked for is done first, one with each Step, however many tries it may do.
func TestStepInOrder(t *testing.T) {
	p := made(t, wide, 600)
	p.knows(t)
	hs := []string{"wrong", "empty", "turn", "crowd", "open", "late", "set", "great"}
	for k, h := range hs {
		p.submits(t, asked{h, "echo", 100 - k})
	}
	for k, h := range hs {
		for n := k; n < len(hs); n++ {
			p.tells(t, api.Ask{Kind: api.AJob, A: n}, 0, 200, "waiting")
		}
		if _, done := p.step(t, greatest); !done {
			t.Fatalf("%s is not done", h)
		}
		p.stands(t)
		if n := p.x.Ledger().Size(); n != k+1 {
			t.Fatalf("%d entries, not %d", n, k+1)
		}
	}
	p.proves(t)
}

// P22.3: a job that comes while others wait, or where none waits any more, is done behind them.
func TestStepByTurns(t *testing.T) {
	p := made(t, wide, 2000)
	p.knows(t)
	r := rand.New(rand.NewSource(2204))
	hs, ss := sorted(p.w.histories), sorted(p.w.specs)
	for len(p.w.jobs) < mostJobs || p.w.waits() > 0 {
		if r.Intn(2) == 0 {
			p.do(t, api.Ask{Kind: api.ASubmit, Name: hs[r.Intn(len(hs))], Spec: ss[r.Intn(len(ss))]}, r.Intn(99))
		} else {
			p.step(t, r.Intn(2000))
		}
		if r.Intn(20) == 0 {
			p.stands(t)
		}
	}
	p.stands(t)
}

// P22.5: what is asked in between changes nothing of a search: uploads, histories and specifications of other names and of the same, jobs, what is told.
func TestAskedInBetween(t *testing.T) {
	p := made(t, wide, 4000)
	p.knows(t)
	p.submits(t, asked{"wrong", "echo", 5}, asked{"wrong", "cell", 6})
	k := 0
	for p.w.waits() > 0 {
		p.step(t, 1)
		k++
		name := fmt.Sprintf("a%d", k)
		p.do(t, api.Ask{Kind: api.APut, Name: "wrong", Body: []byte{0}}, 0)
		p.do(t, api.Ask{Kind: api.ASeal, Name: "wrong"}, 0)
		p.do(t, api.Ask{Kind: api.ASpec, Name: "echo", Body: []byte{1, 19}}, 0)
		p.done(t,
			api.Ask{Kind: api.APut, Name: name, Body: []byte{0}},
			api.Ask{Kind: api.ASpec, Name: name, Body: []byte{1, 19}},
			api.Ask{Kind: api.ASeal, Name: name},
		)
		if k < 5 {
			p.submits(t, asked{"great", "echo", 5})
		}
		p.do(t, api.Ask{Kind: api.ASubmit, Name: name, Spec: "gone"}, 0)
		if k%20 == 0 {
			p.stands(t)
			p.proves(t)
		}
		if len(p.w.entries) > 1 {
			break
		}
	}
	p.entryIs(t, p.w.verdict(asked{"wrong", "echo", 5}))
	p.all(t)
	p.stands(t)
}

// P22.3: the power fails at each step of a Step's commit: the job waits, there is no entry, and no try is done again; opened anew it has no try yet.
func TestStepPowerFails(t *testing.T) {
	p := made(t, wide, 200)
	p.knows(t)
	p.submits(t, asked{"crowd", "echo", 5}, asked{"turn", "cell", 6})
	for steps := 0; ; steps++ {
		q := p.dark(t, steps)
		if n, done := q.step(t, 5); n != 5 || done {
			t.Fatalf("Step: %d, %t", n, done)
		}
		n, done := q.step(t, greatest)
		if n != 1 {
			t.Fatalf("%d tries", n)
		}
		if done {
			if steps < 3 {
				t.Errorf("done in %d steps", steps)
			}
			break
		}
		for range 2 {
			for _, n := range []int{0, 3, -1, greatest} {
				if k, done := q.step(t, n); k != 0 || done {
					t.Fatalf("Step(%d): %d, %t", n, k, done)
				}
			}
			q.stands(t)
			must(t, q.d.Crash(nil))
		}
		q.fast(t)
		q.w.steps = -1
		q.anew(t, wide)
		if n, done := q.step(t, greatest); n != 6 || !done {
			t.Fatalf("anew: %d, %t", n, done)
		}
		q.all(t)
		q.stands(t)
	}
}

// P22.3: Wants, before and behind each call.
func TestWants(t *testing.T) {
	p := made(t, wide, 400)
	p.knows(t)
	if p.x.Wants() {
		t.Error("wants without a job")
	}
	p.submits(t, asked{"set", "cell", 5}, asked{"set", "cell", 5})
	for k := range 2 {
		if !p.x.Wants() {
			t.Errorf("wants nothing, %d done", k)
		}
		p.step(t, 0)
		if !p.x.Wants() {
			t.Errorf("wants nothing behind no try, %d done", k)
		}
		p.step(t, 1)
	}
	if p.x.Wants() {
		t.Error("wants without a job")
	}
}

// P22.3: the ledger and the store are the tenant's own: those that were handed out tell what comes afterwards.
func TestLedgerAndStore(t *testing.T) {
	p := made(t, wide, 400)
	l, s := p.x.Ledger(), p.x.Store()
	p.knows(t)
	p.submits(t, asked{"set", "cell", 5}, asked{"turn", "cell", 6})
	p.step(t, greatest)
	p.stands(t)
	if l != p.x.Ledger() || s != p.x.Store() {
		t.Error("others are handed out")
	}
	if l.Size() != 1 || fmt.Sprint(held(s)) != fmt.Sprint(p.w.content()) {
		t.Errorf("%d entries, %q", l.Size(), held(s))
	}
	if n := s.Room(); n != min((400-p.w.next)*64-20, api.MaxFrame) {
		t.Errorf("Room: %d", n)
	}
}
