package tenant_test

import (
	"fmt"
	"math/rand"
	"slices"
	"sync"
	"testing"

	"inquest/api"
	"inquest/disk"
	"inquest/tenant"
)

// fill writes a byte into all of a list, and into the room behind it.
func fill(b []byte, c byte) {
	b = b[:cap(b)]
	for i := range b {
		b[i] = c
	}
}

// R3: Do changes nothing of the Body that is handed in, nor what stands behind it, and keeps none of its bytes.
func TestBodyIsNotKept(t *testing.T) {
	p := made(t, wide, 600)
	bodies := [][]byte{}
	hands := func(a api.Ask) {
		given := slices.Concat(a.Body, []byte("behind"))
		was := slices.Clone(given)
		a.Body = given[:len(a.Body)]
		p.do(t, a, 5)
		if !slices.Equal(given, was) {
			t.Fatalf("%x came to be %x", was, given)
		}
		bodies = append(bodies, given)
		for _, b := range bodies {
			fill(b, 0xee)
		}
		p.stands(t)
	}
	for name, b := range histories() {
		hands(api.Ask{Kind: api.APut, Name: name, Body: b[:len(b)/2]})
		hands(api.Ask{Kind: api.APut, Name: name, Body: b[len(b)/2:]})
		hands(api.Ask{Kind: api.ASeal, Name: name, Body: []byte("body")})
		hands(api.Ask{Kind: api.APut, Name: name, Body: b})
	}
	for name, b := range specs() {
		hands(api.Ask{Kind: api.ASpec, Name: name, Body: b[:len(b)-1]})
		hands(api.Ask{Kind: api.ASpec, Name: name, Body: b})
		hands(api.Ask{Kind: api.ASubmit, Name: "turn", Spec: name, Body: []byte("body")})
	}
	for kind := range 12 {
		hands(api.Ask{Kind: kind, Name: "gone", Spec: "gone", Body: []byte("body")})
	}
	p.all(t)
	p.stands(t)
}

// told answers all that a tenant tells; of the proofs those that are in the head of all.
func told(x *tenant.Tenant) string {
	s := fmt.Sprint(held(x.Store()), x.Ledger().Texts(), x.Wants())
	n := x.Ledger().Size()
	for _, kind := range []int{api.AJob, api.ACurrent, api.AHead, api.AEntry, api.AGrowth, api.AUsage} {
		for a := range mostJobs + 1 {
			s += fmt.Sprint(x.Do(api.Ask{Kind: kind, A: a, B: n}, 0))
		}
	}
	return s
}

// R3: what Do answered shares no memory with the tenant, nor with another answer.
func TestAnswersAreNew(t *testing.T) {
	p := filled(t, 5, 2)
	want := told(p.x)
	for kind := range 12 {
		for a := range 7 {
			for b := range 7 {
				ask := api.Ask{Kind: kind, Name: "set", Spec: "cell", A: a, B: b}
				one, two := p.x.Do(ask, -1), p.x.Do(ask, -1)
				text := string(two.Body)
				fill(one.Body, 0xdd)
				_ = append(one.Body, 1, 2, 3)
				if string(two.Body) != text || string(p.x.Do(ask, -1).Body) != text {
					t.Fatalf("%+v: %q, not %q", ask, two.Body, text)
				}
			}
		}
	}
	if got := told(p.x); got != want {
		t.Errorf("%s, not %s", got, want)
	}
	for _, a := range []api.Ask{{Kind: api.APut, Name: "new", Body: []byte{0}}, {Kind: api.ASeal, Name: "new"}, {Kind: api.ASpec, Name: "new", Body: []byte{1, 19}}, {Kind: api.ASubmit, Name: "set", Spec: "cell"}} {
		got := p.x.Do(a, 7)
		code, body := p.w.do(a, 7)
		if got.Code != code || string(got.Body) != body {
			t.Fatalf("%+v: %d %q, not %d %q", a, got.Code, got.Body, code, body)
		}
		fill(got.Body, 0xcc)
		p.stands(t)
	}
}

// R3: what was answered stays as it is, whatever is done afterwards.
func TestAnswersStay(t *testing.T) {
	p := made(t, wide, 600)
	p.knows(t)
	var answers [][]byte
	var texts []string
	for k := range 20 {
		p.submits(t, asked{"turn", "cell", k})
		p.step(t, 2+k)
		if k%3 == 0 {
			p.all(t)
		}
		for kind := api.AJob; kind <= api.ACurrent; kind++ {
			b := p.x.Do(api.Ask{Kind: kind, A: k / 2, B: len(p.w.entries)}, 0).Body
			answers, texts = append(answers, b), append(texts, string(b))
		}
	}
	for k, b := range answers {
		if string(b) != texts[k] {
			t.Fatalf("%q came to be %q", texts[k], b)
		}
	}
}

// R4, P22.6: what is only asked, and what is refused, does nothing on the disk, and changes nothing.
func TestAskingChangesNothing(t *testing.T) {
	p := filled(t, 5, 3)
	p.done(t, api.Ask{Kind: api.APut, Name: "bad", Body: []byte("bad")})
	p.step(t, 1)
	p.arm(t, 0)
	want := told(p.x)
	for range 3 {
		for _, a := range []api.Ask{
			{Kind: api.APut, Name: "A"}, {Kind: api.APut, Name: "set"}, {Kind: api.APut, Name: "b", Body: make([]byte, 4097)}, {Kind: api.APut, Name: "bad", Body: make([]byte, 4094)},
			{Kind: api.ASeal, Name: "A"}, {Kind: api.ASeal, Name: "set"}, {Kind: api.ASeal, Name: "gone"}, {Kind: api.ASeal, Name: "bad"},
			{Kind: api.ASpec, Name: "A"}, {Kind: api.ASpec, Name: "cell"}, {Kind: api.ASpec, Name: "gone"},
			{Kind: api.ASubmit, Name: "A", Spec: "cell"}, {Kind: api.ASubmit, Name: "gone", Spec: "cell"}, {Kind: api.ASubmit, Name: "set", Spec: "cell"},
			{Kind: 0}, {Kind: 11}, {Kind: -1},
		} {
			if code := p.do(t, a, -1); code < 400 || code > 499 {
				t.Errorf("%+v: %d", a, code)
			}
		}
		p.stands(t)
		p.proves(t)
		p.step(t, 0)
		p.step(t, -1)
		if got := told(p.x); got != want || p.d.Off() || p.d.Open() != 0 {
			t.Fatalf("%s, not %s; off %t", got, want, p.d.Off())
		}
	}
}

// R4: tenants know nothing of one another: rows of calls by turns, held against the words.
func TestTenantsShareNothing(t *testing.T) {
	r := rand.New(rand.NewSource(2210))
	var all []pair
	for k := range 8 {
		all = append(all, made(t, api.Limits{Quota: 4000 * (k + 1), Queue: k + 1, Fuel: 60, Budget: 10 * k}, 1000))
	}
	met := map[event]int{}
	for range 1500 {
		all[r.Intn(len(all))].anyRow(t, r, 1, met)
	}
	for _, p := range all {
		p.stands(t)
		p.samples(t, r, 20)
	}
}

// R4: the same row of calls is told the same, by another tenant on another disk.
func TestSameAnswers(t *testing.T) {
	r := rand.New(rand.NewSource(2211))
	lim := api.Limits{Quota: 9000, Queue: 4, Fuel: 60, Budget: 30}
	p, q := made(t, lim, 700), made(t, lim, 700)
	p.knows(t)
	q.knows(t)
	for k := range 1500 {
		a := anyAsk(r, p.w)
		if a.Kind == 0 {
			p.step(t, a.A)
			q.step(t, a.A)
			continue
		}
		p.do(t, a, k)
		q.do(t, a, k)
	}
	if told(p.x) != told(q.x) || bytesOf(t, p.d) != bytesOf(t, q.d) {
		t.Error("two tenants tell unlike things")
	}
}

// R4: many tenants at the same time, each of its own goroutine.
func TestAtTheSameTime(t *testing.T) {
	want := filled(t, 12, 3)
	text, s := told(want.x), bytesOf(t, want.d)
	wrong := make([]int, 8)
	disks := make([]*disk.Disk, len(wrong))
	for k := range disks {
		disks[k] = diskOf(t, s)
	}
	var wait sync.WaitGroup
	for k, d := range disks {
		wait.Go(func() {
			for range 5 {
				x, err := tenant.Open(d, want.w.lim, []byte("key"))
				if err != api.OK || told(x) != text {
					wrong[k]++
				}
			}
		})
	}
	wait.Wait()
	for k, n := range wrong {
		if n > 0 {
			t.Errorf("tenant %d: %d wrong", k, n)
		}
	}
}

// P22.6: no more bytes are used than Quota ever, no more jobs wait than Queue, whatever is asked.
func TestNeverMore(t *testing.T) {
	r := rand.New(rand.NewSource(2212))
	full := map[bool]int{}
	for range 60 {
		lim := api.Limits{Quota: r.Intn(3000), Queue: 1 + r.Intn(8), Fuel: 60, Budget: r.Intn(40)}
		p := made(t, lim, 2000)
		for range 300 {
			a := anyAsk(r, p.w)
			if a.Kind == 0 {
				p.step(t, a.A)
			} else {
				p.do(t, a, 5)
			}
			content := held(p.x.Store())
			waits := 0
			for key := range content {
				if key[0] == 'j' {
					waits++
				}
			}
			if used(content) > lim.Quota || waits > lim.Queue {
				t.Fatalf("%d bytes, %d wait of %+v", used(content), waits, lim)
			}
			full[waits == lim.Queue || lim.Quota-used(content) < 20]++
		}
	}
	often(t, full, 1000, true, false)
}
