package tenant_test

import (
	"bytes"
	"fmt"
	"maps"
	"math/rand"
	"slices"
	"strings"
	"testing"

	"inquest/api"
	"inquest/code"
	"inquest/disk"
	"inquest/hist"
	"inquest/store"
	"inquest/tenant"
)

// pair is a tenant and what it has to be, by the words.
type pair struct {
	x *tenant.Tenant
	d *disk.Disk
	w *words
}

// wide are limits that hinder nothing.
var wide = api.Limits{Quota: 1 << 30, Queue: mostWait, Fuel: mostFuel, Budget: mostTries}

// blankDisk answers a new disk.
func blankDisk(t *testing.T, sectors int) *disk.Disk {
	t.Helper()
	d, err := disk.New(sectors)
	must(t, err)
	return d
}

// must asks for no error.
func must(t *testing.T, err api.Errno) {
	t.Helper()
	if err != api.OK {
		t.Fatalf("error %d", err)
	}
}

// opened answers the tenant that is on a disk.
func opened(t *testing.T, d *disk.Disk, lim api.Limits, key []byte) *tenant.Tenant {
	t.Helper()
	x, err := tenant.Open(d, lim, key)
	if x == nil || err != api.OK {
		t.Fatalf("Open: a tenant %t, error %d", x != nil, err)
	}
	return x
}

// refuses asks for an error of Open, and no tenant beside it.
func refuses(t *testing.T, what any, d *disk.Disk, lim api.Limits, want api.Errno) {
	t.Helper()
	if x, err := tenant.Open(d, lim, []byte("key")); x != nil || err != want {
		t.Errorf("Open of %v: a tenant %t, error %d, not %d", what, x != nil, err, want)
	}
}

// made answers a tenant that has nothing, beside the words for it.
func made(t *testing.T, lim api.Limits, sectors int) pair {
	t.Helper()
	d := blankDisk(t, sectors)
	return pair{opened(t, d, lim, []byte("key")), d, nothing(lim, "key", sectors)}
}

// anew opens the tenant anew, with these limits.
func (p *pair) anew(t *testing.T, lim api.Limits) {
	t.Helper()
	p.w.lim = lim
	p.w.anew()
	p.x = opened(t, p.d, lim, []byte(p.w.key))
}

// arm lets the power go off behind n steps.
func (p *pair) arm(t *testing.T, n int) {
	t.Helper()
	must(t, p.d.Arm(n))
	p.w.steps = n
}

// do holds Do against the words, and answers the status.
func (p *pair) do(t *testing.T, a api.Ask, now int) int {
	t.Helper()
	code, body := p.w.do(a, now)
	if got := p.x.Do(a, now); got.Code != code || string(got.Body) != body {
		t.Fatalf("Do of %+v at %d: %d %q, not %d %q", a, now, got.Code, got.Body, code, body)
	}
	return code
}

// tells asks for a status and a body besides.
func (p *pair) tells(t *testing.T, a api.Ask, now, code int, body string) {
	t.Helper()
	if got := p.x.Do(a, now); got.Code != code || string(got.Body) != body {
		t.Fatalf("Do of %+v at %d: %d %q, not %d %q", a, now, got.Code, got.Body, code, body)
	}
	if got, text := p.w.do(a, now); got != code || text != body {
		t.Fatalf("the words of %+v at %d: %d %q, not %d %q", a, now, got, text, code, body)
	}
}

// step holds Step and Wants against the words, and answers what Step told.
func (p *pair) step(t *testing.T, n int) (int, bool) {
	t.Helper()
	p.wants(t)
	tries, done := p.w.step(n)
	if k, ok := p.x.Step(n); k != tries || ok != done {
		t.Fatalf("Step(%d): %d, %t, not %d, %t", n, k, ok, tries, done)
	}
	p.wants(t)
	return tries, done
}

// wants holds Wants against the words.
func (p *pair) wants(t *testing.T) {
	t.Helper()
	if got, want := p.x.Wants(), p.w.waits() > 0; got != want {
		t.Fatalf("Wants: %t, not %t", got, want)
	}
}

// stands holds all that is told in few words against the words, and what the store and the ledger have.
func (p *pair) stands(t *testing.T) {
	t.Helper()
	p.wants(t)
	content := p.w.content()
	if got := held(p.x.Store()); !maps.Equal(got, content) {
		t.Fatalf("the store has %q, not %q", got, content)
	}
	if n := p.x.Store().Used(); n != used(content) {
		t.Fatalf("Used: %d, not %d", n, used(content))
	}
	if got, want := fmt.Sprintf("%x", p.x.Ledger().Texts()), fmt.Sprintf("%x", p.w.book().Texts()); got != want {
		t.Fatalf("Texts: %s, not %s", got, want)
	}
	p.do(t, api.Ask{Kind: api.AUsage}, 0)
	p.do(t, api.Ask{Kind: api.ACurrent}, 0)
	for n := -1; n <= len(p.w.jobs); n++ {
		p.do(t, api.Ask{Kind: api.AJob, A: n}, 0)
	}
}

// proves holds all heads, entries and growths against the words, and what stands beside them.
func (p *pair) proves(t *testing.T) {
	t.Helper()
	all := near(len(p.w.entries))
	for _, x := range all {
		p.do(t, api.Ask{Kind: api.AHead, A: x}, 0)
		for _, n := range all {
			p.do(t, api.Ask{Kind: api.AEntry, A: x, B: n}, 0)
			p.do(t, api.Ask{Kind: api.AGrowth, A: x, B: n}, 0)
		}
	}
}

// samples holds some of the heads, entries and growths against the words, by chance.
func (p *pair) samples(t *testing.T, r *rand.Rand, times int) {
	t.Helper()
	for range times {
		x, n := anyNumber(r, len(p.w.entries)), anyNumber(r, len(p.w.entries))
		p.do(t, api.Ask{Kind: api.AHead, A: x}, 0)
		p.do(t, api.Ask{Kind: api.AEntry, A: x, B: n}, 0)
		p.do(t, api.Ask{Kind: api.AGrowth, A: x, B: n}, 0)
	}
}

// near answers the numbers from -1 to one more than n, the least and the greatest one.
func near(n int) []int {
	l := []int{least, greatest}
	for k := -1; k <= n+1; k++ {
		l = append(l, k)
	}
	return l
}

// held answers what a store has.
func held(s *store.Store) map[string]string {
	all := map[string]string{}
	for _, p := range s.All() {
		all[p.Key] = string(p.Value)
	}
	return all
}

// bytesOf answers a disk's bytes.
func bytesOf(t *testing.T, d *disk.Disk) string {
	t.Helper()
	var s strings.Builder
	for at := range d.Sectors() {
		b, err := d.Read(at)
		must(t, err)
		s.Write(b)
	}
	return s.String()
}

// diskOf answers a disk with these bytes, all of them fast.
func diskOf(t *testing.T, s string) *disk.Disk {
	t.Helper()
	d := blankDisk(t, len(s)/64)
	for at := range d.Sectors() {
		if b := []byte(s[at*64 : at*64+64]); !bytes.Equal(b, make([]byte, 64)) {
			must(t, d.Write(at, b))
		}
	}
	must(t, d.Sync())
	return d
}

// laid answers a disk whose store has this content.
func laid(t *testing.T, sectors int, content map[string]string) *disk.Disk {
	t.Helper()
	d := blankDisk(t, sectors)
	s, err := store.Open(d, greatest)
	must(t, err)
	for _, key := range sorted(content) {
		must(t, s.Commit([]api.Change{put(key, content[key])}))
	}
	return d
}

// call and answer answer events.
func call(client, op int, val int64) api.Event {
	return api.Event{Client: client, Call: true, Op: op, Val: val}
}
func answer(client int, val int64) api.Event { return api.Event{Client: client, Val: val} }

// text answers a history's text.
func text(l ...api.Event) []byte {
	b, err := hist.Encode(l)
	if err != api.OK {
		panic(err)
	}
	return b
}

// spec answers code's text.
func spec(l ...api.Ins) []byte {
	b, err := code.Encode(l)
	if err != api.OK {
		panic(err)
	}
	return b
}

// specs answers specifications by their names.
func specs() map[string][]byte {
	return map[string][]byte{
		// A cell: 0 gets it, another kind sets it.
		"cell": spec(api.Ins{Op: api.IKind}, api.Ins{Op: api.IUnless, N: 6}, api.Ins{Op: api.IArg}, api.Ins{Op: api.IStore}, api.Ins{Op: api.IPush}, api.Ins{Op: api.IAnswer}, api.Ins{Op: api.ILoad}, api.Ins{Op: api.IAnswer}),
		"echo": spec(api.Ins{Op: api.IArg}, api.Ins{Op: api.IAnswer}),
		"none": spec(api.Ins{Op: api.IRefuse}),
		"ever": spec(api.Ins{Op: api.IJump}),
	}
}

// histories answers some by their names.
func histories() map[string][]byte {
	return map[string][]byte{
		"empty": text(),
		"open":  text(call(0, 1, 5), call(3, 0, 0)),
		"set":   text(call(0, 1, 5), answer(0, 0)),
		"turn":  text(call(0, 1, 5), call(1, 0, 0), answer(1, 0), answer(0, 0)),
		"late":  text(call(0, 1, 5), answer(0, 0), call(1, 0, 0), answer(1, 0)),
		"crowd": crowd(6, 0),
		"wrong": crowd(5, 1),
		"great": crowd(13, 1),
	}
}

// crowd answers a history of n operations at the same time that are told what they say, the last one so much more: echo does them in any order, but for that.
func crowd(n int, more int64) []byte {
	var calls, answers []api.Event
	for k := range n {
		calls = append(calls, call(k, 0, int64(k)))
		answers = append(answers, answer(k, int64(k)))
	}
	answers[n-1].Val += more
	return text(slices.Concat(calls, answers)...)
}

// knows puts all specifications and histories there.
func (p *pair) knows(t *testing.T) {
	t.Helper()
	ss, hs := specs(), histories()
	for _, name := range sorted(ss) {
		p.done(t, api.Ask{Kind: api.ASpec, Name: name, Body: ss[name]})
	}
	for _, name := range sorted(hs) {
		p.done(t, api.Ask{Kind: api.APut, Name: name, Body: hs[name]}, api.Ask{Kind: api.ASeal, Name: name})
	}
}

// done asks for something that is done.
func (p *pair) done(t *testing.T, l ...api.Ask) {
	t.Helper()
	for _, a := range l {
		if code := p.do(t, a, 5); code != 200 {
			t.Fatalf("Do of %+v: %d", a, code)
		}
	}
}

// submits lets jobs wait.
func (p *pair) submits(t *testing.T, l ...asked) {
	t.Helper()
	for _, j := range l {
		if code := p.do(t, api.Ask{Kind: api.ASubmit, Name: j.history, Spec: j.spec}, j.time); code != 200 {
			t.Fatalf("%+v: %d", j, code)
		}
	}
}

// all does all jobs that wait.
func (p *pair) all(t *testing.T) {
	t.Helper()
	for p.w.waits() > 0 {
		if _, done := p.step(t, greatest); !done {
			t.Fatal("not done")
		}
	}
}

// often asks that each of these was met so many times at least.
func often[K comparable](t *testing.T, met map[K]int, times int, keys ...K) {
	t.Helper()
	for _, k := range keys {
		if met[k] < times {
			t.Errorf("%v: only %d times", k, met[k])
		}
	}
}

// The samples above are what they are said to be: all verdicts come of them.
func TestSamples(t *testing.T) {
	met := map[int]int{}
	for _, fuel := range []int{3, 60} {
		for _, budget := range []int{0, 3, mostTries} {
			for _, h := range histories() {
				for _, s := range specs() {
					v := search{string(h), string(s), fuel, budget}.whole()
					met[v.Kind]++
					if v.Tries > 60000 {
						t.Errorf("%d tries", v.Tries)
					}
				}
			}
		}
	}
	often(t, met, 10, api.Fits, api.FitsNot, api.OutFuel, api.OutTry)
}
