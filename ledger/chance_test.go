package ledger_test

import (
	"math/rand"
	"testing"

	"inquest/api"
	"inquest/ledger"
)

// asked is a call and its error.
type asked struct {
	call string
	err  api.Errno
}

// anyNumber answers a number near those that a ledger of that size has, now and then any number.
func anyNumber(r *rand.Rand, size int) int {
	if r.Intn(12) == 0 {
		return []int{least, least + 1, greatest - 1, greatest, 63, 64, 65, int(r.Uint64())}[r.Intn(8)]
	}
	return r.Intn(size+3) - 1
}

// anyEntry answers any entry, one that can be or not; often the next one.
func anyEntry(r *rand.Rand, size int) api.Entry {
	e := chance(r, size)
	switch r.Intn(6) {
	case 0:
		e.Job = anyNumber(r, size)
	case 1:
		e.Job = r.Intn(mostEntries)
	case 2:
		l := wrong(e.Job)
		e = l[r.Intn(len(l))]
	}
	return e
}

// do does one call by chance, holds it against the words, and answers which one it was.
func (p pair) do(t *testing.T, r *rand.Rand) asked {
	t.Helper()
	size := len(p.b.texts)
	x, n := anyNumber(r, size), anyNumber(r, size)
	switch r.Intn(9) {
	case 0:
		return asked{"Text", p.text(t, x)}
	case 1:
		p.texts(t)
		return asked{"Texts", api.OK}
	case 2:
		return asked{"Head", p.head(t, n)}
	case 3:
		return asked{"Path", p.path(t, x, n)}
	case 4:
		return asked{"Growth", p.growth(t, x, n)}
	}
	return asked{"Add", p.add(t, anyEntry(r, size))}
}

// P21.1 to P21.3: rows of calls by chance, held against the chapter's words.
func TestRowsByChance(t *testing.T) {
	r := rand.New(rand.NewSource(2105))
	met := map[asked]int{}
	for range 150 {
		key := make([]byte, r.Intn(100))
		r.Read(key)
		p := made(t, key)
		for range r.Intn(600) {
			met[p.do(t, r)]++
		}
		p.stands(t)
	}
	for _, call := range []string{"Text", "Head", "Path", "Growth"} {
		often(t, met, 300, asked{call, api.OK}, asked{call, api.ErrNone})
	}
	often(t, met, 300, asked{"Texts", api.OK}, asked{"Add", api.OK}, asked{"Add", api.ErrArg}, asked{"Add", api.ErrFull})
}

// isNothing asks a ledger that New did not make for everything.
func isNothing(t *testing.T, l *ledger.Ledger, e api.Entry, x, n int) {
	t.Helper()
	if err := l.Add(e); err != api.ErrNil {
		t.Errorf("Add of %v: error %d", e, err)
	}
	if size := l.Size(); size != 0 {
		t.Errorf("Size: %d", size)
	}
	if all := l.Texts(); len(all) != 0 {
		t.Errorf("Texts: %x", all)
	}
	if b, err := l.Text(x); err != api.ErrNil || len(b) != 0 {
		t.Errorf("Text(%d): %x, error %d", x, b, err)
	}
	if h, err := l.Head(n); err != api.ErrNil || h != (api.Head{}) {
		t.Errorf("Head(%d): %x, error %d", n, h, err)
	}
	if path, err := l.Path(x, n); err != api.ErrNil || len(path) != 0 {
		t.Errorf("Path(%d, %d): %x, error %d", x, n, path, err)
	}
	if growth, err := l.Growth(x, n); err != api.ErrNil || len(growth) != 0 {
		t.Errorf("Growth(%d, %d): %x, error %d", x, n, growth, err)
	}
}

// P21.2, P21.3, R1: of a ledger that New did not make nothing, 0, ErrNil, whatever else is handed in.
func TestNotMade(t *testing.T) {
	r := rand.New(rand.NewSource(2106))
	zero := new(ledger.Ledger)
	for _, l := range []*ledger.Ledger{nil, zero, {}} {
		for _, x := range near(2) {
			for _, n := range near(2) {
				isNothing(t, l, plain(0), x, n)
			}
		}
		for _, e := range append(wrong(0), plain(0), plain(1), plain(63), plain(64), api.Entry{}, chance(r, 0)) {
			isNothing(t, l, e, 0, 0)
		}
	}
}

// R1: no panic comes out of the package, whatever is handed in.
func TestNoPanic(t *testing.T) {
	r := rand.New(rand.NewSource(2107))
	for _, size := range []int{0, 1, 5, mostEntries} {
		p := filled(t, make([]byte, 1<<16), size)
		for range 300 {
			var e api.Entry
			e.Job, e.Time = anyNumber(r, size), anyNumber(r, size)
			e.Verdict = api.Verdict{Kind: anyNumber(r, 5), Tries: anyNumber(r, size)}
			for range r.Intn(70) {
				e.Verdict.Order = append(e.Verdict.Order, anyNumber(r, 64))
			}
			p.add(t, e)
			x, n := int(r.Uint64())>>r.Intn(64), int(r.Uint64())>>r.Intn(64)
			p.text(t, x)
			p.path(t, x, n)
			p.growth(t, x, n)
			p.head(t, n)
			h := headOf(x)
			if !ledger.Signed(nil, ledger.Sign(nil, h)) || len(ledger.HeadText(h)) != 72 {
				t.Fatalf("Size %d", x)
			}
		}
		p.add(t, api.Entry{Job: size, Verdict: api.Verdict{Kind: api.Fits, Order: make([]int, 1<<20)}})
		p.stands(t)
	}
}
