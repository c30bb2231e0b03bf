package ledger_test

import (
	"slices"
	"testing"

	"inquest/api"
	"inquest/ledger"
	"inquest/merkle"
)

// leaves answers those of a ledger's texts.
func leaves(l *ledger.Ledger) []api.Digest {
	var out []api.Digest
	for _, b := range l.Texts() {
		out = append(out, merkle.Leaf(b, 256))
	}
	return out
}

// P21.3: Head of each n, of ledgers of each size, held against the chapter's words.
func TestHeads(t *testing.T) {
	for size := range mostEntries + 1 {
		filled(t, keys()[size%len(keys())], size).stands(t)
	}
}

// P21.1, P21.3: Head of each n by merkle's and mac's own functions.
func TestHeadsByLayers(t *testing.T) {
	for _, key := range keys() {
		p := filled(t, key, 40)
		all := leaves(p.l)
		var chain api.Digest
		for n := range len(all) + 1 {
			want := ledger.Sign(key, api.Head{Size: n, Root: merkle.Root(all[:n], 256), Chain: chain})
			h, err := p.l.Head(n)
			if err != api.OK || h != want || !ledger.Signed(key, h) || ledger.Signed(row(33), h) {
				t.Errorf("Head(%d): %x, error %d, not %x", n, h, err, want)
			}
			if n < len(all) {
				chain = merkle.Node(chain, all[n], 256)
			}
		}
	}
}

// P21.3: Head of what is no n.
func TestNoHead(t *testing.T) {
	for _, size := range []int{0, 1, 2, 5, 63, 64} {
		p := filled(t, row(8), size)
		for _, n := range []int{-1, -2, size + 1, size + 2, 65, 256 + size, 1 << 32, size - 1<<32, least, least + 1, greatest - 1, greatest} {
			if h, err := p.l.Head(n); err != api.ErrNone || h != (api.Head{}) {
				t.Errorf("Head(%d) of %d: %x, error %d", n, size, h, err)
			}
		}
		p.stands(t)
	}
}

// P21.3: Path and Growth of every i, m and n from -1 to Size + 1, and of far ones, held against the chapter's words.
func TestProofs(t *testing.T) {
	for _, size := range []int{0, 1, 2, 3, 4, 7, 8, 13, 16, 17} {
		filled(t, row(8), size).proves(t)
	}
}

// P21.3: the same of a ledger that is full.
func TestProofsOfFull(t *testing.T) { filled(t, row(8), mostEntries).proves(t) }

// P21.3: Path and Growth by merkle's own functions.
func TestProofsByLayers(t *testing.T) {
	for _, size := range []int{0, 1, 2, 3, 7, 8, 13} {
		p := filled(t, nil, size)
		all := leaves(p.l)
		for n := range size + 1 {
			for x := -1; x <= size+1; x++ {
				want, refused := merkle.Path(all[:n], x, 256)
				got, err := p.l.Path(x, n)
				if !slices.Equal(got, want) || (err == api.OK) != (refused == api.OK) {
					t.Errorf("Path(%d, %d): %x, error %d, not %x", x, n, got, err, want)
				}
				want, refused = merkle.Growth(all[:n], x, 256)
				got, err = p.l.Growth(x, n)
				if !slices.Equal(got, want) || (err == api.OK) != (refused == api.OK) {
					t.Errorf("Growth(%d, %d): %x, error %d, not %x", x, n, got, err, want)
				}
			}
		}
	}
}

// P21.3: which i, m and n are refused, said one by one.
func TestProofErrors(t *testing.T) {
	p := filled(t, row(8), 5)
	far := []int{-1, -5, 6, 7, 64, 65, 1 << 32, 5 - 1<<32, least, least + 1, greatest - 1, greatest}
	refuses := func(x, n int, paths, growths bool) {
		t.Helper()
		if l, err := p.l.Path(x, n); paths && (err != api.ErrNone || len(l) != 0) {
			t.Errorf("Path(%d, %d): %x, error %d", x, n, l, err)
		}
		if l, err := p.l.Growth(x, n); growths && (err != api.ErrNone || len(l) != 0) {
			t.Errorf("Growth(%d, %d): %x, error %d", x, n, l, err)
		}
	}
	for _, x := range far {
		for n := range 6 {
			refuses(x, n, true, true)
			refuses(n, x, true, true)
		}
		for _, n := range far {
			refuses(x, n, true, true)
		}
	}
	for n := range 6 {
		refuses(n, n, true, false)
		refuses(0, n, false, true)
		refuses(n+1, n, true, true)
	}
}

// P21.3: of one entry the path is empty, and so is the growth from all to all; both are OK.
func TestEmptyProofs(t *testing.T) {
	for size := 1; size <= mostEntries; size++ {
		p := filled(t, nil, size)
		if l, err := p.l.Path(0, 1); err != api.OK || len(l) != 0 {
			t.Errorf("Path(0, 1): %x, error %d", l, err)
		}
		for n := 1; n <= size; n++ {
			if l, err := p.l.Growth(n, n); err != api.OK || len(l) != 0 {
				t.Errorf("Growth(%d, %d): %x, error %d", n, n, l, err)
			}
		}
	}
}
