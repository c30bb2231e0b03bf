package ledger_test

import (
	"fmt"
	"math/rand"
	"slices"
	"strings"
	"testing"

	"inquest/api"
	"inquest/ledger"
	"inquest/merkle"
)

// headAt answers the head of n, which there must be.
func headAt(t *testing.T, l *ledger.Ledger, n int) api.Head {
	t.Helper()
	h, err := l.Head(n)
	if err != api.OK {
		t.Fatalf("Head(%d): error %d", n, err)
	}
	return h
}

// P21.4: each entry is shown by its path in each head behind it, and nothing else is.
func TestPathsAreTaken(t *testing.T) {
	for _, size := range []int{1, 2, 3, 7, 8, 13, 30} {
		l := filled(t, row(8), size).l
		all := leaves(l)
		for n := 1; n <= size; n++ {
			h := headAt(t, l, n)
			for i := range n {
				path, err := l.Path(i, n)
				if err != api.OK {
					t.Fatalf("Path(%d, %d): error %d", i, n, err)
				}
				for j := range size {
					if merkle.CheckPath(h.Root, n, i, all[j], path, 256) != (i == j) {
						t.Errorf("Path(%d, %d) and the text %d", i, n, j)
					}
					if merkle.CheckPath(h.Root, n, j, all[i], path, 256) != (i == j) {
						t.Errorf("Path(%d, %d) and the place %d", i, n, j)
					}
				}
			}
		}
	}
}

// P21.4: the same of all places of a full ledger.
func TestPathsOfFull(t *testing.T) {
	l := filled(t, row(8), mostEntries).l
	all := leaves(l)
	for n := 1; n <= mostEntries; n++ {
		h := headAt(t, l, n)
		for i := range n {
			if path, err := l.Path(i, n); err != api.OK || !merkle.CheckPath(h.Root, h.Size, i, all[i], path, 256) {
				t.Errorf("Path(%d, %d): %x, error %d", i, n, path, err)
			}
		}
	}
}

// P21.4: each head is shown, by its growth, to begin with each one ahead, and with no other one.
func TestGrowthsAreTaken(t *testing.T) {
	for _, size := range []int{1, 2, 3, 7, 8, 13, mostEntries} {
		l := filled(t, row(8), size).l
		other := made(t, row(8))
		for job := range size {
			other.adds(t, plain(job), api.OK)
		}
		for n := 1; n <= size; n++ {
			h := headAt(t, l, n)
			for m := 1; m <= n; m++ {
				growth, err := l.Growth(m, n)
				ahead := headAt(t, l, m)
				if err != api.OK || !merkle.CheckGrowth(ahead.Root, m, h.Root, n, growth, 256) {
					t.Errorf("Growth(%d, %d): %x, error %d", m, n, growth, err)
				}
				if unlikeAhead := headAt(t, other.l, m); merkle.CheckGrowth(unlikeAhead.Root, m, h.Root, n, growth, 256) {
					t.Errorf("Growth(%d, %d) and another ledger's head ahead", m, n)
				}
				if unlikeBehind := headAt(t, other.l, n); merkle.CheckGrowth(ahead.Root, m, unlikeBehind.Root, n, growth, 256) {
					t.Errorf("Growth(%d, %d) and another ledger's head behind", m, n)
				}
			}
		}
	}
}

// told answers all that a ledger tells of its first entries, in words.
func told(l *ledger.Ledger) map[string]string {
	out := map[string]string{}
	for n := range l.Size() + 1 {
		h, err := l.Head(n)
		out[fmt.Sprint("head ", n)] = fmt.Sprint(h, err)
		for x := range n + 1 {
			path, err := l.Path(x, n)
			out[fmt.Sprint("path ", x, n)] = fmt.Sprint(path, err)
			growth, err := l.Growth(x, n)
			out[fmt.Sprint("growth ", x, n)] = fmt.Sprint(growth, err)
		}
	}
	for i, b := range l.Texts() {
		text, err := l.Text(i)
		out[fmt.Sprint("text ", i)] = fmt.Sprint(b, text, err)
	}
	return out
}

// P21.4: nothing that is added changes a head, a path, a growth or a text that was told; nothing that is refused does.
func TestAddingChangesNothing(t *testing.T) {
	r := rand.New(rand.NewSource(2102))
	p := made(t, row(8))
	before := told(p.l)
	for job := range 20 {
		p.adds(t, chance(r, job), api.OK)
		p.adds(t, chance(r, job), api.ErrArg)
		p.adds(t, api.Entry{Job: job + 1}, api.ErrArg)
		now := told(p.l)
		for k, was := range before {
			if now[k] != was {
				t.Fatalf("%s behind %d: %s, not %s", k, job, now[k], was)
			}
		}
		before = now
	}
}

// P21.4: all heads of a ledger, each told as soon as it is there, are the same once it is full.
func TestHeadsStay(t *testing.T) {
	p := made(t, row(8))
	heads := []api.Head{headAt(t, p.l, 0)}
	for job := range mostEntries {
		p.adds(t, plain(job), api.OK)
		heads = append(heads, headAt(t, p.l, job+1))
	}
	p.adds(t, plain(5), api.ErrFull)
	for n, want := range heads {
		if h := headAt(t, p.l, n); h != want || h.Size != n {
			t.Errorf("Head(%d): %x, not %x", n, h, want)
		}
	}
}

// P21.1: two ledgers with the same entries and unlike keys have the same Root and Chain, but another Sign.
func TestUnlikeKeys(t *testing.T) {
	all := keys()[1:]
	for n := range mostEntries + 1 {
		signs := map[api.Digest]int{}
		first := headAt(t, filled(t, all[0], n).l, n)
		for _, key := range all {
			h := headAt(t, filled(t, key, n).l, n)
			if h.Size != n || h.Root != first.Root || h.Chain != first.Chain {
				t.Fatalf("Head(%d) by %x: %x, not %x", n, key, h, first)
			}
			signs[h.Sign]++
		}
		if len(signs) != len(all) {
			t.Fatalf("Head(%d): only %d signs", n, len(signs))
		}
	}
}

// P21.4: two ledgers of which one entry is not the same have the same heads ahead of it, and another Root and Chain from there on.
func TestOneUnlikeEntry(t *testing.T) {
	const size = 14
	for at := range size {
		for _, other := range unlike(at) {
			a, b := made(t, row(8)), made(t, row(8))
			for job := range size {
				a.adds(t, plain(job), api.OK)
				if job == at {
					b.adds(t, other, api.OK)
				} else {
					b.adds(t, plain(job), api.OK)
				}
			}
			for n := range size + 1 {
				x, y := headAt(t, a.l, n), headAt(t, b.l, n)
				if n <= at && x != y || n > at && (x.Root == y.Root || x.Chain == y.Chain || x.Sign == y.Sign) {
					t.Errorf("%v at %d: Head(%d): %x and %x", other, at, n, x, y)
				}
			}
		}
	}
}

// unlike answers entries that are not as plain in one thing.
func unlike(job int) []api.Entry {
	l := make([]api.Entry, 6)
	for i := range l {
		l[i] = plain(job)
	}
	l[0].Time++
	l[1].History[31] ^= 1
	l[2].Spec[0] ^= 0x80
	l[3].Verdict.Kind = api.Fits
	l[4].Verdict.Tries++
	l[5].Verdict = api.Verdict{Kind: api.Fits, Order: []int{1, 0}, Tries: 3}
	return l
}

// P21.4: among all ledgers of up to four entries of three kinds those with one chain have the same texts, those with the same texts one chain; so it is with roots.
func TestChainsTellTexts(t *testing.T) {
	chains, roots := map[api.Digest]string{}, map[api.Digest]string{}
	seen := 0
	var fill func(kinds []int)
	fill = func(kinds []int) {
		p := made(t, nil)
		for job, kind := range kinds {
			e := plain(job)
			e.Verdict.Kind = kind
			p.adds(t, e, api.OK)
		}
		h := headAt(t, p.l, len(kinds))
		texts := strings.Join(strs(p.l.Texts()), "|")
		for _, met := range []struct {
			m map[api.Digest]string
			d api.Digest
		}{{chains, h.Chain}, {roots, h.Root}} {
			if was, ok := met.m[met.d]; ok && was != texts {
				t.Errorf("%x: %x and %x", met.d, was, texts)
			}
			met.m[met.d] = texts
		}
		seen++
		if len(kinds) == 4 {
			return
		}
		for kind := 2; kind <= 4; kind++ {
			fill(append(slices.Clone(kinds), kind))
		}
	}
	fill(nil)
	if seen != 1+3+9+27+81 || len(chains) != seen || len(roots) != seen {
		t.Errorf("%d ledgers, %d chains, %d roots", seen, len(chains), len(roots))
	}
}
