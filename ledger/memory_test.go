package ledger_test

import (
	"fmt"
	"math/rand"
	"slices"
	"sync"
	"testing"

	"inquest/api"
	"inquest/ledger"
)

// roomy answers a list with room behind its length, and all of its memory.
func roomy[T any](l []T, filler T) (part, whole []T) {
	whole = append(slices.Clone(l), filler, filler, filler, filler)
	return whole[:len(l)], whole
}

// R3: no call changes the key that is handed in, nor what stands behind it, nor reads that.
func TestKeyUnchanged(t *testing.T) {
	for _, key := range keys() {
		part, whole := roomy(key, 0x77)
		was := slices.Clone(whole)
		h := ledger.Sign(part, headOf(3))
		if h != ledger.Sign(key, headOf(3)) || !ledger.Signed(part, h) {
			t.Errorf("%x: %x", key, h)
		}
		p := pair{ledger.New(part), &book{key: key}}
		for job := range 3 {
			p.adds(t, plain(job), api.OK)
		}
		p.stands(t)
		if !slices.Equal(whole, was) {
			t.Errorf("%x came to be %x", was, whole)
		}
	}
}

// P21.2: the ledger keeps the key as it was: what is written into the bytes afterwards changes no head.
func TestKeyIsKept(t *testing.T) {
	for _, key := range keys() {
		given, _ := roomy(key, 0x77)
		p := pair{ledger.New(given), &book{key: key}}
		spoil(given, 0xff)
		p.stands(t)
		for job := range 5 {
			p.adds(t, plain(job), api.OK)
			spoil(given, byte(job))
			p.stands(t)
		}
	}
}

// R3: what HeadText answered shares no memory with anything.
func TestHeadTextIsNew(t *testing.T) {
	h := headOf(0x0102)
	was := h
	one, two := ledger.HeadText(h), ledger.HeadText(h)
	spoil(one, 0xff)
	_ = append(one, 1, 2, 3)
	if string(two) != wordsOf(was) || h != was || string(ledger.HeadText(h)) != wordsOf(was) {
		t.Errorf("%x, %x", two, h)
	}
	spoil(h.Root[:], 0)
	spoil(h.Chain[:], 0)
	if string(two) != wordsOf(was) {
		t.Errorf("%x", two)
	}
}

// R3: Add changes nothing of the entry that is handed in, nor what stands behind its Order, and keeps nothing of it.
func TestEntryIsNotKept(t *testing.T) {
	r := rand.New(rand.NewSource(2103))
	p := made(t, row(8))
	var orders [][]int
	for job := range mostEntries {
		e := chance(r, job)
		e.Verdict.Kind = api.Fits
		e.Verdict.Order = r.Perm(api.MaxOps)[:r.Intn(api.MaxOps+1)]
		part, whole := roomy(e.Verdict.Order, 7777)
		was := slices.Clone(whole)
		e.Verdict.Order = part
		p.adds(t, e, api.OK)
		p.add(t, e)
		if !slices.Equal(whole, was) {
			t.Fatalf("%v came to be %v", was, whole)
		}
		orders = append(orders, whole)
		for _, l := range orders {
			spoil(l, job)
		}
		p.texts(t)
		p.head(t, job+1)
	}
	p.stands(t)
}

// R3: an Order of an entry that is refused is not changed either.
func TestWrongEntryUnchanged(t *testing.T) {
	for _, size := range []int{0, 1, mostEntries} {
		p := filled(t, nil, size)
		for _, e := range append(wrong(size), plain(size+1), plain(0)) {
			part, whole := roomy(e.Verdict.Order, 7777)
			was := slices.Clone(whole)
			e.Verdict.Order = part
			p.add(t, e)
			if !slices.Equal(whole, was) {
				t.Fatalf("%v came to be %v", was, whole)
			}
		}
	}
}

// R3: what is answered is the caller's own: what is written into it, and into the room behind it, changes nothing that the ledger tells afterwards.
func TestAnswersAreNew(t *testing.T) {
	for _, size := range []int{0, 1, 2, 3, 8, 13} {
		p := filled(t, row(8), size)
		want := fmt.Sprint(told(p.l))
		for n := range size + 1 {
			for x := range n + 1 {
				path, _ := p.l.Path(x, n)
				spoil(path, repeated(0xee))
				growth, _ := p.l.Growth(x, n)
				spoil(growth, repeated(0xdd))
			}
			text, _ := p.l.Text(n)
			spoil(text, 0xff)
			_ = append(text, 1, 2, 3)
		}
		for _, b := range p.l.Texts() {
			spoil(b, 0xcc)
			_ = append(b, 1, 2, 3)
		}
		l := p.l.Texts()
		spoil(l, []byte("x"))
		_ = append(l, []byte("y"))
		if got := fmt.Sprint(told(p.l)); got != want {
			t.Errorf("%d entries: %s, not %s", size, got, want)
		}
		p.adds(t, plain(size), api.OK)
		p.stands(t)
	}
}

// R3: two answers, and two lists of one answer, share nothing.
func TestAnswersShareNothing(t *testing.T) {
	p := filled(t, row(8), 13)
	l, again := p.l.Texts(), p.l.Texts()
	for i := range l {
		one, _ := p.l.Text(i)
		two, _ := p.l.Text(i)
		spoil(l[i], 0xff)
		spoil(one, 0xee)
		if string(two) != p.b.texts[i] || !slices.Equal(strs(l[i+1:]), p.b.texts[i+1:]) {
			t.Fatalf("Text(%d): %x; Texts: %x", i, two, l)
		}
	}
	if !slices.Equal(strs(again), p.b.texts) {
		t.Errorf("Texts: %x", again)
	}
	for i := range 13 {
		one, _ := p.l.Path(i, 13)
		two, _ := p.l.Path(i, 13)
		grown, _ := p.l.Growth(i+1, 13)
		more, _ := p.l.Growth(i+1, 13)
		spoil(one, repeated(1))
		spoil(grown, repeated(2))
		if !slices.Equal(two, pathOf(p.b.leaves, i)) || !slices.Equal(more, growthOf(p.b.leaves, i+1, true)) {
			t.Fatalf("Path(%d, 13): %x; Growth(%d, 13): %x", i, two, i+1, more)
		}
	}
}

// R3, P21.4: what was answered stays as it is, whatever is added afterwards.
func TestAnswersStay(t *testing.T) {
	p := made(t, row(8))
	var texts [][][]byte
	var paths, growths [][]api.Digest
	for job := range mostEntries {
		p.adds(t, plain(job), api.OK)
		texts = append(texts, p.l.Texts())
		path, _ := p.l.Path(job/2, job+1)
		growth, _ := p.l.Growth(job/2+1, job+1)
		paths, growths = append(paths, path), append(growths, growth)
	}
	for job := range mostEntries {
		first := p.b.leaves[:job+1]
		if !slices.Equal(strs(texts[job]), p.b.texts[:job+1]) || !slices.Equal(paths[job], pathOf(first, job/2)) || !slices.Equal(growths[job], growthOf(first, job/2+1, true)) {
			t.Fatalf("behind %d: %x, %x, %x", job, texts[job], paths[job], growths[job])
		}
	}
}

// R4: what is asked changes nothing.
func TestAskingChangesNothing(t *testing.T) {
	p := filled(t, row(8), 9)
	want := fmt.Sprint(told(p.l))
	for range 5 {
		p.proves(t)
		p.stands(t)
		if got := fmt.Sprint(told(p.l)); got != want {
			t.Fatalf("%s, not %s", got, want)
		}
	}
}

// R4: many ledgers know nothing of one another, though they have keys and entries together.
func TestLedgersShareNothing(t *testing.T) {
	r := rand.New(rand.NewSource(2104))
	key := row(40)
	var all []pair
	for range 10 {
		all = append(all, made(t, key))
	}
	for range 300 {
		p := all[r.Intn(len(all))]
		p.adds(t, chance(r, p.l.Size()), api.OK)
		for _, q := range all {
			q.texts(t)
		}
	}
	for _, p := range all {
		p.stands(t)
	}
}

// R4: many ledgers at the same time, each of its own goroutine.
func TestAtTheSameTime(t *testing.T) {
	wrong := make([]int, 8)
	key := row(40)
	var wait sync.WaitGroup
	for k := range wrong {
		wait.Go(func() {
			l, b := ledger.New(key), &book{key: key}
			for job := range mostEntries {
				e := plain(job)
				e.Time = k
				same := l.Add(e) == b.add(e)
				want, _ := b.head(job + 1)
				if h, _ := l.Head(job + 1); !same || h != want || !slices.Equal(strs(l.Texts()), b.texts) {
					wrong[k]++
				}
			}
		})
	}
	wait.Wait()
	for k, n := range wrong {
		if n > 0 {
			t.Errorf("ledger %d: %d wrong", k, n)
		}
	}
}
