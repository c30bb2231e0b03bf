package clash_test

import (
	"bytes"
	"crypto/sha256"
	"math"
	"math/bits"
	"slices"
	"strconv"
	"testing"

	"inquest/api"
	"inquest/clash"
	"inquest/merkle"
)

var (
	widths    = []int{0, 1, 4, 8, 256}
	sizes     = []int{1, 2, 3, 4, 5, 6, 7, 8, 9, 11, 12, 13, 15, 16, 17, 23, 24, 31, 32, 33, 37}
	oddPlaces = []int{math.MinInt, math.MinInt + 1, -64, -2, -1, math.MaxInt - 1, math.MaxInt}
)

// digest answers one that looks like chance, another one for each seed.
func digest(seed int) api.Digest { return sha256.Sum256([]byte("digest " + strconv.Itoa(seed))) }

// digests answers n of them, with spare room behind that is not empty.
func digests(n, seed int) []api.Digest {
	l := make([]api.Digest, n+3)
	for i := range l {
		l[i] = digest(1000*seed + i)
	}
	return l[:n]
}

// texts answers n unlike ones, of 0 bytes and more, one of them as long as a node's; in the list and in each text there is spare room behind that is not empty.
func texts(n, seed int) [][]byte {
	all := make([][]byte, n+3)
	for i := range all {
		long := 3 * i % 70
		b := bytes.Repeat([]byte{byte(seed), byte(i)}, 40)
		all[i] = b[:long]
	}
	return all[:n]
}

// other answers a text that is none of texts.
func other(seed int) []byte { return []byte("other " + strconv.Itoa(seed)) }

// The functions from here on reckon by the library, and each path and growth by what it says of pieces of the list, from the root on.

func libCut(d api.Digest, w int) api.Digest {
	for bit := max(w, 0); bit < 256; bit++ {
		if bit%8 == 0 {
			clear(d[bit/8:])
			break
		}
		d[bit/8] &^= 128 >> (bit % 8)
	}
	return d
}

func libSum(w int, parts ...[]byte) api.Digest {
	return libCut(sha256.Sum256(slices.Concat(parts...)), w)
}

func libLeaf(text []byte, w int) api.Digest { return libSum(w, []byte{0}, text) }

func libNode(x, y api.Digest, w int) api.Digest { return libSum(w, []byte{1}, x[:], y[:]) }

func libLeaves(data [][]byte, w int) []api.Digest {
	var l []api.Digest
	for _, text := range data {
		l = append(l, libLeaf(text, w))
	}
	return l
}

// half answers where a list of n, two or more, is cut.
func half(n int) int {
	k := 1
	for 2*k < n {
		k *= 2
	}
	return k
}

func libRoot(l []api.Digest, w int) api.Digest {
	if len(l) == 1 {
		return l[0]
	}
	k := half(len(l))
	return libNode(libRoot(l[:k], w), libRoot(l[k:], w), w)
}

// libPath answers the path of a place.
func libPath(l []api.Digest, i, w int) []api.Digest {
	if len(l) == 1 {
		return nil
	}
	if k := half(len(l)); i < k {
		return append(libPath(l[:k], i, w), libRoot(l[k:], w))
	} else {
		return append(libPath(l[k:], i-k, w), libRoot(l[:k], w))
	}
}

// libLead answers where a path leads, and whether it is as long as it must be.
func libLead(n, i int, leaf api.Digest, path []api.Digest, w int) (api.Digest, bool) {
	last := len(path) - 1
	if n == 1 || last < 0 {
		return leaf, n == 1 && last < 0
	}
	if k := half(n); i < k {
		d, ok := libLead(k, i, leaf, path[:last], w)
		return libNode(d, path[last], w), ok
	} else {
		d, ok := libLead(n-k, i-k, leaf, path[:last], w)
		return libNode(path[last], d, w), ok
	}
}

// libTaken tells whether a path is taken that shows a text.
func libTaken(data [][]byte, i int, leaf []byte, path []api.Digest, w int) bool {
	if i < 0 || i >= len(data) {
		return false
	}
	root, ok := libLead(len(data), i, libLeaf(leaf, w), path, w)
	return ok && root == libRoot(libLeaves(data, w), w)
}

// libGrowth answers the growth from m.
func libGrowth(l []api.Digest, m int, whole bool, w int) []api.Digest {
	if m == len(l) && whole {
		return nil
	}
	if m == len(l) {
		return []api.Digest{libRoot(l, w)}
	}
	if k := half(len(l)); m <= k {
		return append(libGrowth(l[:k], m, whole, w), libRoot(l[k:], w))
	} else {
		return append(libGrowth(l[k:], m-k, false, w), libRoot(l[:k], w))
	}
}

// libGrow answers the two roots to which a growth leads, and whether it is as long as it must be.
func libGrow(old api.Digest, m, n int, whole bool, proof []api.Digest, w int) (first, all api.Digest, ok bool) {
	last := len(proof) - 1
	if m == n && whole {
		return old, old, last < 0
	}
	if last < 0 {
		return old, old, false
	}
	if m == n {
		return proof[last], proof[last], last == 0
	}
	if k := half(n); m <= k {
		first, all, ok = libGrow(old, m, k, whole, proof[:last], w)
		return first, libNode(all, proof[last], w), ok
	} else {
		first, all, ok = libGrow(old, m-k, n-k, false, proof[:last], w)
		return libNode(proof[last], first, w), libNode(proof[last], all, w), ok
	}
}

// libGrown tells whether a growth is taken.
func libGrown(data [][]byte, m int, old api.Digest, proof []api.Digest, w int) bool {
	if m < 1 || m > len(data) {
		return false
	}
	first, all, ok := libGrow(old, m, len(data), true, proof, w)
	return ok && first == old && all == libRoot(libLeaves(data, w), w)
}

// libClash tells whether two texts clash.
func libClash(c api.Clash, w int) bool {
	return string(c.A) != string(c.B) && libSum(w, c.A) == libSum(w, c.B)
}

// judged holds an answer against whether there must be a clash.
func judged(t *testing.T, c api.Clash, ok, want bool, w int) {
	t.Helper()
	if ok != want {
		t.Errorf("at %d bits: %v, not %v", w, ok, want)
	}
	if !ok && (len(c.A) != 0 || len(c.B) != 0) {
		t.Errorf("at %d bits: texts beside false: %x", w, c)
	}
	if ok && (!libClash(c, w) || !clash.Is(c, w)) {
		t.Errorf("at %d bits: no clash: %x", w, c)
	}
}

// tryPath takes a clash out of a path and tells whether there is one, which it holds against the chapter.
func tryPath(t *testing.T, data [][]byte, i int, leaf []byte, path []api.Digest, w int) (api.Clash, bool) {
	t.Helper()
	c, ok := clash.Path(data, i, leaf, path, w)
	taken := libTaken(data, i, leaf, path, w)
	judged(t, c, ok, taken && string(leaf) != string(data[i]), w)
	return c, ok
}

// tryGrowth does so with a growth.
func tryGrowth(t *testing.T, data [][]byte, m int, old api.Digest, proof []api.Digest, w int) (api.Clash, bool) {
	t.Helper()
	c, ok := clash.Growth(data, m, old, proof, w)
	grown := libGrown(data, m, old, proof, w)
	judged(t, c, ok, grown && old != libRoot(libLeaves(data[:m], w), w), w)
	return c, ok
}

// oftenTried tells of which lists what takes long is done.
func oftenTried(n int) bool { return n <= 13 || n == 24 }

// spoilt answers lists that differ from one in one digest more, less, changed, or changed about.
func spoilt(l []api.Digest) [][]api.Digest {
	var out [][]api.Digest
	for i := range len(l) + 1 {
		out = append(out, slices.Insert(slices.Clone(l), i, digest(-1-i)), slices.Insert(slices.Clone(l), i, api.Digest{}))
	}
	for i := range l {
		out = append(out, slices.Delete(slices.Clone(l), i, i+1))
		changed := slices.Clone(l)
		changed[i][31-i%32] ^= 1 << (i % 8)
		out = append(out, changed)
		if i > 0 {
			about := slices.Clone(l)
			about[i-1], about[i] = about[i], about[i-1]
			out = append(out, about)
		}
	}
	return out
}

// someSpoilt answers them for lists of which what takes long is done, and none for others.
func someSpoilt(n int, l []api.Digest) [][]api.Digest {
	if !oftenTried(n) {
		return nil
	}
	return spoilt(l)
}

// P7.1
func TestIsOfTheSame(t *testing.T) {
	for _, w := range []int{math.MinInt, -1, 0, 1, 8, 255, 256, 257, math.MaxInt} {
		for _, c := range []api.Clash{
			{}, {A: []byte{}}, {B: []byte{}}, {A: []byte{}, B: []byte{}},
			{A: []byte{0}, B: []byte{0}}, {A: other(1), B: other(1)}, {A: make([]byte, 1000), B: make([]byte, 1000)},
		} {
			if clash.Is(c, w) {
				t.Errorf("Is(%x, %d)", c, w)
			}
		}
	}
}

// P7.1
func TestIsOfUnlikeOnes(t *testing.T) {
	for _, c := range []api.Clash{
		{A: []byte{0}}, {B: []byte{0}}, {A: []byte{}, B: []byte{0}}, {A: []byte{0}, B: []byte{0, 0}}, {A: []byte("a"), B: []byte("b")},
		{A: []byte{0, 'a'}, B: []byte{1, 'a'}}, {A: make([]byte, 63), B: make([]byte, 64)}, {A: make([]byte, 1000), B: make([]byte, 1001)},
	} {
		for w, want := range map[int]bool{math.MinInt: true, -257: true, -1: true, 0: true, 256: false, 257: false, 512: false, math.MaxInt: false} {
			if clash.Is(c, w) != want || clash.Is(api.Clash{A: c.B, B: c.A}, w) != want {
				t.Errorf("Is(%x, %d): not %v", c, w, want)
			}
		}
		for _, w := range []int{1, 2, 3, 8, 9} {
			if clash.Is(c, w) != libClash(c, w) {
				t.Errorf("Is(%x, %d): not %v", c, w, libClash(c, w))
			}
		}
	}
}

// sharedBits answers how many bits two sums have alike, from the first on.
func sharedBits(x, y api.Digest) int {
	for i := range x {
		if x[i] != y[i] {
			return 8*i + bits.LeadingZeros8(x[i]^y[i])
		}
	}
	return 256
}

// P7.1: texts whose sums are the same in just so many bits
func TestIsAsManyBitsAsAreTheSame(t *testing.T) {
	type summed struct {
		text []byte
		sum  api.Digest
	}
	var all []summed
	for i := range 1 << 15 {
		text := other(i)
		all = append(all, summed{text, sha256.Sum256(text)})
	}
	slices.SortFunc(all, func(x, y summed) int { return bytes.Compare(x.sum[:], y.sum[:]) })
	met := make(map[int]int)
	for i := range all[1:] {
		shared := sharedBits(all[i].sum, all[i+1].sum)
		c := api.Clash{A: all[i].text, B: all[i+1].text}
		if !clash.Is(c, shared) || clash.Is(c, shared+1) {
			t.Errorf("%s, %s: not just %d bits", c.A, c.B, shared)
		}
		if met[shared]++; met[shared] > 3 {
			continue
		}
		for w := -3; w < 260; w++ {
			if clash.Is(c, w) != (w <= shared) {
				t.Errorf("Is(%s, %s, %d): %v of %d bits", c.A, c.B, w, w > shared, shared)
			}
		}
	}
	for shared := 11; shared <= 24; shared++ {
		if met[shared] == 0 {
			t.Errorf("no texts whose sums are the same in just %d bits", shared)
		}
	}
}

// P7.2
func TestExamples(t *testing.T) {
	data := [][]byte{[]byte("a")}
	for _, w := range []int{0, -1, math.MinInt} {
		for _, path := range [][]api.Digest{nil, {}} {
			c, ok := clash.Path(data, 0, []byte("b"), path, w)
			if !ok || string(c.A) != "\x00a" || string(c.B) != "\x00b" {
				t.Errorf("Path at %d: %q, %v", w, c, ok)
			}
			c, ok = clash.Path(data, 0, []byte("a"), path, w)
			judged(t, c, ok, false, w)
		}
	}
	for _, w := range []int{256, 257, math.MaxInt} {
		c, ok := clash.Path(data, 0, []byte("b"), nil, w)
		judged(t, c, ok, false, w)
	}
}

// P7.2: what the tree has is no clash, whatever the width
func TestPathOfOwnTexts(t *testing.T) {
	for _, n := range sizes {
		for _, w := range []int{math.MinInt, -1, 0, 1, 4, 8, 255, 256, 257, math.MaxInt} {
			data := texts(n, n)
			for i := range n {
				path := libPath(libLeaves(data, w), i, w)
				if !libTaken(data, i, data[i], path, w) {
					t.Fatal("the own path is not taken")
				}
				c, ok := clash.Path(data, i, data[i], path, w)
				judged(t, c, ok, false, w)
				c, ok = clash.Path(data, i, slices.Clone(data[i]), digests(len(path), 1), w)
				judged(t, c, ok, false, w)
			}
		}
	}
}

// P7.2
func TestPathOfOtherTexts(t *testing.T) {
	taken := make(map[int]int)
	for _, n := range sizes {
		for _, w := range widths {
			data := texts(n, n)
			for i := range n {
				path := libPath(libLeaves(data, w), i, w)
				for seed := range 3 {
					if _, ok := tryPath(t, data, i, other(seed), path, w); ok {
						taken[w]++
					}
					if _, ok := tryPath(t, data, i, other(seed), digests(len(path), seed), w); ok {
						taken[w]++
					}
				}
				for _, bad := range someSpoilt(n, path) {
					tryPath(t, data, i, other(1), bad, w)
					tryPath(t, data, i, data[i], bad, w)
				}
				for j := range min(n, 4) {
					tryPath(t, data, i, data[j], path, w)
					tryPath(t, data, j, data[i], path, w)
				}
			}
		}
	}
	for _, w := range widths {
		if (taken[w] > 0) != (w < 256) {
			t.Errorf("at %d bits: %d were taken", w, taken[w])
		}
	}
}

// pathTaken answers another text than that at the place i, and a path for it that is taken, in which the digests that are named were changed until it was.
func pathTaken(data [][]byte, i int, path []api.Digest, change []int, w int) ([]byte, []api.Digest) {
	root := libRoot(libLeaves(data, w), w)
	for seed := 0; ; seed++ {
		leaf, bad := other(seed), slices.Clone(path)
		for _, at := range change {
			bad[at] = digest(100*seed + at)
		}
		if r, _ := libLead(len(data), i, libLeaf(leaf, w), bad, w); r == root {
			return leaf, bad
		}
	}
}

// P7.2: paths in which digests were changed until they are taken, one by one and all of them
func TestPathChangedUntilTaken(t *testing.T) {
	kinds := make(map[byte]int)
	for _, n := range sizes {
		for _, w := range []int{0, 1, 4, 8} {
			if w == 8 && !oftenTried(n) {
				continue
			}
			data := texts(n, n)
			for i := range n {
				path := libPath(libLeaves(data, w), i, w)
				var all []int
				for at := range path {
					all = append(all, at)
				}
				for at := range len(path) + 1 {
					change := all
					if at < len(path) {
						change = all[at : at+1]
					}
					leaf, bad := pathTaken(data, i, path, change, w)
					c, ok := clash.Path(data, i, leaf, bad, w)
					judged(t, c, ok, true, w)
					if ok {
						kinds[c.A[0]]++
					}
				}
			}
		}
	}
	if kinds[0] == 0 || kinds[1] == 0 {
		t.Errorf("clashes of leaves and of nodes: %v", kinds)
	}
}

// P7.2: two ways that come together at each height: with 12 bits, seldom below it by chance
func TestPathClashAtEachHeight(t *testing.T) {
	const w = 12
	for _, n := range []int{2, 3, 7, 8, 13} {
		data := texts(n, n)
		l := libLeaves(data, w)
		for i := range n {
			path := libPath(l, i, w)
			for at := range path {
				leaf, bad := meetAt(data, i, path, at, w)
				c, ok := clash.Path(data, i, leaf, bad, w)
				judged(t, c, ok, true, w)
				if !ok || c.A[0] != 1 || c.B[0] != 1 {
					t.Errorf("%d in %d, met at %d: %x", i, n, at, c)
				}
			}
		}
	}
}

// meetAt answers another text and the own path but for one digest, by which its way and the own one come together there.
func meetAt(data [][]byte, i int, path []api.Digest, at, w int) ([]byte, []api.Digest) {
	leaf, bad := other(i), slices.Clone(path)
	root := libRoot(libLeaves(data, w), w)
	for seed := 0; ; seed++ {
		bad[at] = digest(seed)
		if r, _ := libLead(len(data), i, libLeaf(leaf, w), bad, w); r == root {
			return leaf, bad
		}
	}
}

// P7.2
func TestPathOfNoPlace(t *testing.T) {
	for _, n := range append([]int{0}, sizes...) {
		data := texts(n, n)
		for _, w := range widths {
			for _, i := range append([]int{n, n + 1, 2*n + 1, -n - 1}, oddPlaces...) {
				for count := range 8 {
					c, ok := clash.Path(data, i, other(1), digests(count, 1), w)
					judged(t, c, ok, false, w)
					c, ok = clash.Path(data, i, nil, make([]api.Digest, count), w)
					judged(t, c, ok, false, w)
				}
			}
		}
	}
	for _, data := range [][][]byte{nil, {}} {
		c, ok := clash.Path(data, 0, []byte("b"), nil, 0)
		judged(t, c, ok, false, 0)
	}
}

// P7.2: with 0 bits a path of any digests is taken, but of one length alone
func TestPathTooShortOrTooLong(t *testing.T) {
	for _, n := range sizes {
		data := texts(n, n)
		for i := range n {
			long := len(libPath(libLeaves(data, 0), i, 0))
			for count := range 12 {
				for _, path := range [][]api.Digest{digests(count, 1), make([]api.Digest, count)} {
					c, ok := clash.Path(data, i, other(1), path, 0)
					judged(t, c, ok, count == long, 0)
				}
			}
			c, ok := clash.Path(data, i, other(1), make([]api.Digest, 5000), 0)
			judged(t, c, ok, false, 0)
		}
	}
}

// P7.2: it is the text that counts, not from which place it comes
func TestPathOfTextsThatStandThereTwice(t *testing.T) {
	for n := 1; n < 18; n++ {
		for _, w := range widths {
			data := texts(n, n)
			for i := range n {
				data[i] = []byte{byte(i % 3)}
			}
			l := libLeaves(data, w)
			for i := range n {
				for j := range n {
					_, ok := tryPath(t, data, i, data[j], libPath(l, j, w), w)
					if ok && i%3 == j%3 {
						t.Errorf("%d for %d: a clash of what is there", j, i)
					}
				}
			}
		}
	}
}

// P7.2: nil and empty texts are one text
func TestPathOfEmptyTexts(t *testing.T) {
	data := [][]byte{nil, {}, {0}, nil}
	for _, w := range widths {
		l := libLeaves(data, w)
		for i := range data {
			for _, leaf := range [][]byte{nil, {}, {0}, {0, 0}} {
				tryPath(t, data, i, leaf, libPath(l, i, w), w)
			}
		}
	}
}

// P7.3: what the tree has is no clash, whatever the width
func TestGrowthFromOwnRoots(t *testing.T) {
	for _, n := range sizes {
		for _, w := range []int{math.MinInt, -1, 0, 1, 4, 8, 255, 256, 257, math.MaxInt} {
			data := texts(n, n)
			l := libLeaves(data, w)
			for m := 1; m <= n; m++ {
				old, proof := libRoot(l[:m], w), libGrowth(l, m, true, w)
				if !libGrown(data, m, old, proof, w) {
					t.Fatal("the own growth is not taken")
				}
				c, ok := clash.Growth(data, m, old, proof, w)
				judged(t, c, ok, false, w)
				c, ok = clash.Growth(data, m, old, digests(len(proof), 1), w)
				judged(t, c, ok, false, w)
			}
		}
	}
}

// P7.3
func TestGrowthFromOtherRoots(t *testing.T) {
	taken := make(map[int]int)
	for _, n := range sizes {
		for _, w := range widths {
			data := texts(n, n)
			l := libLeaves(data, w)
			for m := 1; m <= n; m++ {
				proof := libGrowth(l, m, true, w)
				for seed := range 3 {
					old := digest(seed)
					tryGrowth(t, data, m, old, proof, w)
					if _, ok := tryGrowth(t, data, m, libCut(old, w), proof, w); ok {
						taken[w]++
					}
					bad := digests(len(proof), seed)
					first, _, _ := libGrow(old, m, n, true, bad, w)
					if _, ok := tryGrowth(t, data, m, first, bad, w); ok {
						taken[w]++
					}
				}
				for _, bad := range someSpoilt(n, proof) {
					first, _, _ := libGrow(digest(1), m, n, true, bad, w)
					tryGrowth(t, data, m, first, bad, w)
					tryGrowth(t, data, m, libRoot(l[:m], w), bad, w)
				}
				for _, old := range []api.Digest{{}, libRoot(l, w), l[0], libRoot(l[:max(m-1, 1)], w)} {
					tryGrowth(t, data, m, old, proof, w)
				}
			}
		}
	}
	for _, w := range widths {
		if (taken[w] > 0) != (w < 256) {
			t.Errorf("at %d bits: %d were taken", w, taken[w])
		}
	}
}

// growthTaken answers another root than that of the first m leaves, and a growth from it that is taken, in which the digests that are named were changed until it was; false, if there was none for long.
func growthTaken(data [][]byte, m int, proof []api.Digest, change []int, w int) (api.Digest, []api.Digest, bool) {
	l := libLeaves(data, w)
	own, root := libRoot(l[:m], w), libRoot(l, w)
	for seed := range 1 << (w + 4) {
		bad := slices.Clone(proof)
		for _, at := range change {
			bad[at] = digest(100*seed + at)
		}
		first, all, _ := libGrow(digest(-seed), m, len(data), true, bad, w)
		if all == root && first != own {
			return first, bad, true
		}
	}
	return api.Digest{}, nil, false
}

// P7.3: growths in which digests were changed until they are taken, one by one and all of them
func TestGrowthChangedUntilTaken(t *testing.T) {
	for _, n := range sizes {
		for _, w := range []int{0, 1, 4, 8} {
			if w == 8 && !oftenTried(n) {
				continue
			}
			data := texts(n, n)
			for m := 1; m < n; m++ {
				proof := libGrowth(libLeaves(data, w), m, true, w)
				var all []int
				for at := range proof {
					all = append(all, at)
				}
				wholePiece := bits.OnesCount(uint(m)) == 1
				found := 0
				for at := range len(proof) + 1 {
					change := all
					if at < len(proof) {
						change = all[at : at+1]
					}
					old, bad, ok := growthTaken(data, m, proof, change, w)
					if !ok {
						continue
					}
					found++
					c, ok := clash.Growth(data, m, old, bad, w)
					judged(t, c, ok, true, w)
				}
				if found == 0 && (w >= 4 || wholePiece) {
					t.Errorf("from %d to %d at %d bits: no growth is taken", m, n, w)
				}
				if found > 0 && w == 0 && !wholePiece {
					t.Errorf("from %d to %d: with 0 bits there is one root of a node", m, n)
				}
			}
		}
	}
}

// P7.3
func TestGrowthFromNoBeginning(t *testing.T) {
	for _, n := range append([]int{0}, sizes...) {
		data := texts(n, n)
		for _, w := range widths {
			for _, m := range append([]int{0, n + 1, n + 2, 2*n + 2, -n - 1}, oddPlaces...) {
				for count := range 8 {
					c, ok := clash.Growth(data, m, digest(1), digests(count, 1), w)
					judged(t, c, ok, false, w)
					c, ok = clash.Growth(data, m, api.Digest{}, make([]api.Digest, count), w)
					judged(t, c, ok, false, w)
				}
			}
		}
	}
	for _, data := range [][][]byte{nil, {}} {
		for _, m := range []int{0, 1} {
			c, ok := clash.Growth(data, m, digest(1), nil, 0)
			judged(t, c, ok, false, 0)
		}
	}
}

// P7.3: where nothing has grown, what is taken is the root itself
func TestGrowthOfNothing(t *testing.T) {
	for _, n := range sizes {
		data := texts(n, n)
		for _, w := range widths {
			root := libRoot(libLeaves(data, w), w)
			for _, old := range []api.Digest{root, {}, digest(1), libCut(digest(1), w)} {
				for count := range 8 {
					c, ok := clash.Growth(data, n, old, digests(count, 1), w)
					judged(t, c, ok, false, w)
				}
			}
		}
	}
}

// P7.3: with 0 bits each growth from a power of two is taken, but of one length alone; the root of other beginnings is nought
func TestGrowthTooShortOrTooLong(t *testing.T) {
	for _, n := range sizes {
		data := texts(n, n)
		for m := 1; m < n; m++ {
			long := len(libGrowth(libLeaves(data, 0), m, true, 0))
			wholePiece := bits.OnesCount(uint(m)) == 1
			for count := range 12 {
				for _, proof := range [][]api.Digest{digests(count, 1), make([]api.Digest, count)} {
					c, ok := clash.Growth(data, m, digest(1), proof, 0)
					judged(t, c, ok, wholePiece && count == long, 0)
					c, ok = clash.Growth(data, m, api.Digest{}, proof, 0)
					judged(t, c, ok, false, 0)
				}
			}
			c, ok := clash.Growth(data, m, digest(1), make([]api.Digest, 5000), 0)
			judged(t, c, ok, false, 0)
		}
	}
}

// P7.2, P7.3: widths below 0 and above 256 count as those
func TestWidthsBeyondTheEnds(t *testing.T) {
	data := texts(6, 1)
	for _, w := range []int{math.MinInt, -257, -256, -1, 0} {
		c, ok := tryPath(t, data, 2, other(1), digests(3, 1), w)
		judged(t, c, ok, true, 0)
		c, ok = tryGrowth(t, data, 2, digest(1), digests(2, 1), w)
		judged(t, c, ok, true, 0)
	}
	for _, w := range []int{256, 257, 512, math.MaxInt} {
		l := libLeaves(data, 256)
		c, ok := tryPath(t, data, 2, other(1), libPath(l, 2, w), w)
		judged(t, c, ok, false, 256)
		c, ok = tryGrowth(t, data, 2, digest(1), libGrowth(l, 2, true, w), w)
		judged(t, c, ok, false, 256)
	}
}

// P7.4: what merkle takes and is not so has a clash; with 256 bits nothing else is taken
func TestWhatIsTakenAndIsNotSoHasAClash(t *testing.T) {
	for _, n := range sizes {
		for _, w := range widths {
			data := texts(n, n)
			l := libLeaves(data, w)
			root := merkle.Root(l, w)
			for seed := range 8 {
				i := (5*seed + n/2) % n
				for _, path := range [][]api.Digest{libPath(l, i, w), digests(len(libPath(l, i, w)), seed)} {
					taken := merkle.CheckPath(root, n, i, merkle.Leaf(other(seed), w), path, w)
					c, ok := clash.Path(data, i, other(seed), path, w)
					judged(t, c, ok, taken, w)
					if taken && w == 256 {
						t.Error("another text is taken with 256 bits")
					}
				}
				m := i + 1
				for _, proof := range [][]api.Digest{libGrowth(l, m, true, w), digests(len(libGrowth(l, m, true, w)), seed)} {
					old, _, _ := libGrow(digest(seed), m, n, true, proof, w)
					taken := merkle.CheckGrowth(old, m, root, n, proof, w) && old != merkle.Root(l[:m], w)
					c, ok := clash.Growth(data, m, old, proof, w)
					judged(t, c, ok, taken, w)
					if taken && w == 256 {
						t.Error("another beginning is taken with 256 bits")
					}
				}
			}
		}
	}
}

// cases calls Path and Growth with arguments that have answers of each kind: no clash, one of leaves, one of nodes.
func cases(do func(name string, data [][]byte, leaf []byte, list []api.Digest, call func() (api.Clash, bool))) {
	for _, n := range []int{1, 2, 3, 5, 6, 8, 13} {
		for _, w := range []int{0, 1, 2, 256} {
			for at := range n {
				data, leaf := texts(n, n), append(other(at), "spare"...)[:len(other(at))]
				for _, count := range []int{len(libPath(libLeaves(data, w), at, w)), at} {
					path := digests(count, at)
					do("Path", data, leaf, path, func() (api.Clash, bool) { return clash.Path(data, at, leaf, path, w) })
				}
				own := append(libPath(libLeaves(data, w), at, w), digests(2, 3)...)
				own = own[:len(own)-2]
				do("Path", data, leaf, own, func() (api.Clash, bool) { return clash.Path(data, at, leaf, own, w) })
				proof := digests(len(libGrowth(libLeaves(data, w), at+1, true, w)), at)
				old, _, _ := libGrow(digest(at), at+1, n, true, proof, w)
				do("Growth", data, leaf, proof, func() (api.Clash, bool) { return clash.Growth(data, at+1, old, proof, w) })
			}
		}
	}
}

// spare answers copies of texts with what is behind them, in the list and in each of it.
func spare(data [][]byte) [][]byte {
	var out [][]byte
	for _, text := range data[:cap(data)] {
		out = append(out, bytes.Clone(text[:cap(text)]))
	}
	return out
}

func sameTexts(x, y [][]byte) bool { return slices.EqualFunc(x, y, bytes.Equal) }

// P7.1 to P7.3, R3
func TestNothingHandedInIsChanged(t *testing.T) {
	cases(func(name string, data [][]byte, leaf []byte, list []api.Digest, call func() (api.Clash, bool)) {
		wantData, wantLeaf, wantList := spare(data), bytes.Clone(leaf[:cap(leaf)]), slices.Clone(list[:cap(list)])
		c, ok := call()
		kept := api.Clash{A: bytes.Clone(c.A[:cap(c.A)]), B: bytes.Clone(c.B[:cap(c.B)])}
		if clash.Is(c, 0) != ok {
			t.Errorf("%s: %x", name, c)
		}
		if !bytes.Equal(c.A[:cap(c.A)], kept.A) || !bytes.Equal(c.B[:cap(c.B)], kept.B) {
			t.Errorf("%s: Is changed a text", name)
		}
		if !sameTexts(spare(data), wantData) || !bytes.Equal(leaf[:cap(leaf)], wantLeaf) || !slices.Equal(list[:cap(list)], wantList) {
			t.Errorf("%s changed what it was handed", name)
		}
	})
}

// P7.2, P7.3, R3
func TestAnswersAreNobodyElses(t *testing.T) {
	leafClashes, nodeClashes := 0, 0
	cases(func(name string, data [][]byte, leaf []byte, list []api.Digest, call func() (api.Clash, bool)) {
		wantData, wantLeaf, wantList := spare(data), bytes.Clone(leaf[:cap(leaf)]), slices.Clone(list[:cap(list)])
		c, ok := call()
		again, _ := call()
		want := api.Clash{A: bytes.Clone(c.A), B: bytes.Clone(c.B)}
		if ok && c.A[0] == 0 {
			leafClashes++
		} else if ok {
			nodeClashes++
		}
		fill(c.A)
		if !bytes.Equal(c.B, want.B) {
			t.Errorf("%s: the texts share memory", name)
		}
		fill(c.B)
		if !bytes.Equal(again.A, want.A) || !bytes.Equal(again.B, want.B) {
			t.Errorf("%s: answers hang on one another", name)
		}
		if !sameTexts(spare(data), wantData) || !bytes.Equal(leaf[:cap(leaf)], wantLeaf) || !slices.Equal(list[:cap(list)], wantList) {
			t.Errorf("%s: what was handed in hangs on the answer", name)
		}
		for _, text := range data[:cap(data)] {
			fill(text)
		}
		fill(leaf)
		clear(data[:cap(data)])
		clear(list[:cap(list)])
		if !bytes.Equal(again.A, want.A) || !bytes.Equal(again.B, want.B) {
			t.Errorf("%s: the answer hangs on what was handed in", name)
		}
	})
	if leafClashes == 0 || nodeClashes == 0 {
		t.Errorf("%d clashes of leaves, %d of nodes", leafClashes, nodeClashes)
	}
}

// fill spoils a text with what is behind it.
func fill(b []byte) {
	for i := range b[:cap(b)] {
		b[:cap(b)][i] ^= 0xa5
	}
}

// P7.1 to P7.3, R4: nothing is kept from call to call
func TestNothingIsKept(t *testing.T) {
	data, path := texts(5, 1), digests(3, 1)
	want, _ := clash.Path(data, 1, other(1), path, 0)
	data[1][0] ^= 1
	c, ok := clash.Path(data, 1, other(1), path, 0)
	judged(t, c, ok, true, 0)
	if bytes.Equal(c.A, want.A) {
		t.Error("the text that stood there earlier is answered")
	}
	data[1][0] ^= 1
	if c, _ := clash.Path(data, 1, other(1), path, 0); !bytes.Equal(c.A, want.A) || !bytes.Equal(c.B, want.B) {
		t.Error("the same call is answered otherwise")
	}
}
