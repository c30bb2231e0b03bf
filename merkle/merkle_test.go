package merkle_test

import (
	"bytes"
	"crypto/sha256"
	"encoding/hex"
	"math"
	"math/big"
	"math/bits"
	"slices"
	"testing"

	"inquest/api"
	"inquest/merkle"
)

const many = 130 // digests of the longest list that is gone through place by place

var (
	widths    = []int{math.MinInt, -1, 0, 1, 7, 8, 9, 128, 255, 256, 257, math.MaxInt}
	someSizes = []int{1, 2, 3, 4, 5, 6, 7, 8, 9, 12, 15, 16, 17, 31, 33}
)

// row answers n bytes of all values, another row for each seed.
func row(n, seed int) []byte {
	b := make([]byte, n)
	for i := range b {
		b[i] = byte(37*seed + i*i + i>>3)
	}
	return b
}

// digest answers one that looks like chance, another one for each seed.
func digest(seed int) api.Digest { return sha256.Sum256(big.NewInt(int64(seed)).Append(nil, 10)) }

// digests answers n of them, with spare room behind that is not empty.
func digests(n, seed int) []api.Digest {
	l := make([]api.Digest, n+4)
	for i := range l {
		l[i] = digest(1000*seed + i)
	}
	return l[:n]
}

func fromHex(t *testing.T, s string) api.Digest {
	t.Helper()
	b, err := hex.DecodeString(s)
	if err != nil || len(b) != 32 {
		t.Fatal(s)
	}
	return api.Digest(b)
}

// The functions from here on reckon by the library, and by other ways than the chapter's: trees by their levels from the leaves up, proofs by the bits of places, as RFC 9162 checks them.

func libCut(d api.Digest, w int) api.Digest {
	away := uint(256 - min(max(w, 0), 256))
	x := new(big.Int).SetBytes(d[:])
	x.Lsh(x.Rsh(x, away), away)
	var out api.Digest
	x.FillBytes(out[:])
	return out
}

func libNode(x, y api.Digest, w int) api.Digest {
	return libCut(sha256.Sum256(append(append([]byte{1}, x[:]...), y[:]...)), w)
}

// levels answers the rows of a tree from the leaves to the root: a last one without a neighbour goes up as it is.
func levels(l []api.Digest, w int) [][]api.Digest {
	out := [][]api.Digest{l}
	for len(l) > 1 {
		var up []api.Digest
		for pair := range slices.Chunk(l, 2) {
			if len(pair) == 2 {
				up = append(up, libNode(pair[0], pair[1], w))
			} else {
				up = append(up, pair[0])
			}
		}
		out = append(out, up)
		l = up
	}
	return out
}

func libRoot(l []api.Digest, w int) api.Digest {
	if len(l) == 0 {
		return libCut(sha256.Sum256(nil), w)
	}
	rows := levels(l, w)
	return rows[len(rows)-1][0]
}

// neighbours answers those that stand beside a place on its way up.
func neighbours(rows [][]api.Digest, i int) []api.Digest {
	var out []api.Digest
	for _, row := range rows {
		if i^1 < len(row) {
			out = append(out, row[i^1])
		}
		i /= 2
	}
	return out
}

// libGrowth answers the growth from m to the list whose rows these are.
func libGrowth(rows [][]api.Digest, m int) []api.Digest {
	if m == len(rows[0]) {
		return nil
	}
	at := m - 1
	for at&1 == 1 {
		rows, at = rows[1:], at/2
	}
	if at == 0 {
		return neighbours(rows, at)
	}
	return append([]api.Digest{rows[0][at]}, neighbours(rows, at)...)
}

// libWay answers for each digest of a proof whether it stands on the left, from a place on upwards, and whether there are as many as asked.
func libWay(at, last uint, count int) ([]bool, bool) {
	var left []bool
	for range count {
		if last == 0 {
			return nil, false
		}
		onLeft := at&1 == 1 || at == last
		left = append(left, onLeft)
		for onLeft && at&1 == 0 && at != 0 {
			at, last = at>>1, last>>1
		}
		at, last = at>>1, last>>1
	}
	return left, last == 0
}

func libReckon(n, i int, leaf api.Digest, path []api.Digest, w int) (api.Digest, bool) {
	left, ok := libWay(uint(i), uint(n-1), len(path))
	for j, onLeft := range left {
		if onLeft {
			leaf = libNode(path[j], leaf, w)
		} else {
			leaf = libNode(leaf, path[j], w)
		}
	}
	return leaf, ok
}

func libCheckPath(root api.Digest, n, i int, leaf api.Digest, path []api.Digest, w int) bool {
	if i < 0 || i >= n {
		return false
	}
	r, ok := libReckon(n, i, leaf, path, w)
	return ok && r == root
}

// libGrow answers the two roots that a proof leads to.
func libGrow(old api.Digest, m, n int, proof []api.Digest, w int) (api.Digest, api.Digest, bool) {
	if bits.OnesCount(uint(m)) == 1 {
		proof = append([]api.Digest{old}, proof...)
	}
	if len(proof) == 0 {
		return old, old, false
	}
	at, last := uint(m-1), uint(n-1)
	for at&1 == 1 {
		at, last = at>>1, last>>1
	}
	first, all := proof[0], proof[0]
	left, ok := libWay(at, last, len(proof)-1)
	for j, onLeft := range left {
		if onLeft {
			first, all = libNode(proof[j+1], first, w), libNode(proof[j+1], all, w)
		} else {
			all = libNode(all, proof[j+1], w)
		}
	}
	return first, all, ok
}

func libCheckGrowth(old api.Digest, m int, root api.Digest, n int, proof []api.Digest, w int) bool {
	if m < 1 || m > n {
		return false
	}
	if m == n {
		return old == root && len(proof) == 0
	}
	first, all, ok := libGrow(old, m, n, proof, w)
	return ok && first == old && all == root
}

// spoilt answers lists that differ from one in one digest more, less, changed, or changed about.
func spoilt(l []api.Digest) [][]api.Digest {
	var out [][]api.Digest
	for i := range len(l) + 1 {
		out = append(out, slices.Insert(slices.Clone(l), i, digest(-1-i)))
	}
	for i := range l {
		out = append(out, slices.Delete(slices.Clone(l), i, i+1))
		changed := slices.Clone(l)
		changed[i][31-i%32] ^= 1 << (i % 8)
		out = append(out, changed)
		if i > 0 {
			about := slices.Clone(l)
			about[i-1], about[i] = about[i], about[i-1]
			out = append(out, about)
		}
	}
	return out
}

// P6.1
func TestCut(t *testing.T) {
	full := fromHex(t, "ffffffffffffffffffffffffffffffffffffffffffffffffffffffffffffffff")
	for _, c := range []struct {
		w    int
		want string
	}{
		{math.MinInt, "0000000000000000000000000000000000000000000000000000000000000000"},
		{-256, "0000000000000000000000000000000000000000000000000000000000000000"},
		{-1, "0000000000000000000000000000000000000000000000000000000000000000"},
		{0, "0000000000000000000000000000000000000000000000000000000000000000"},
		{1, "8000000000000000000000000000000000000000000000000000000000000000"},
		{2, "c000000000000000000000000000000000000000000000000000000000000000"},
		{7, "fe00000000000000000000000000000000000000000000000000000000000000"},
		{8, "ff00000000000000000000000000000000000000000000000000000000000000"},
		{9, "ff80000000000000000000000000000000000000000000000000000000000000"},
		{12, "fff0000000000000000000000000000000000000000000000000000000000000"},
		{248, "ffffffffffffffffffffffffffffffffffffffffffffffffffffffffffffff00"},
		{255, "fffffffffffffffffffffffffffffffffffffffffffffffffffffffffffffffe"},
		{256, "ffffffffffffffffffffffffffffffffffffffffffffffffffffffffffffffff"},
		{257, "ffffffffffffffffffffffffffffffffffffffffffffffffffffffffffffffff"},
		{264, "ffffffffffffffffffffffffffffffffffffffffffffffffffffffffffffffff"},
		{math.MaxInt, "ffffffffffffffffffffffffffffffffffffffffffffffffffffffffffffffff"},
	} {
		if got := merkle.Cut(full, c.w); got != fromHex(t, c.want) {
			t.Errorf("Cut at %d: %x", c.w, got)
		}
	}
	for w := -20; w <= 300; w++ {
		for seed := range 20 {
			d := digest(seed)
			if got := merkle.Cut(d, w); got != libCut(d, w) {
				t.Errorf("Cut(%x, %d): %x", d, w, got)
			}
			if d != digest(seed) {
				t.Error("Cut changed what it was handed")
			}
		}
	}
}

// P6.1
func TestLeaf(t *testing.T) {
	for w, want := range map[int]string{
		-1:  "0000000000000000000000000000000000000000000000000000000000000000",
		0:   "0000000000000000000000000000000000000000000000000000000000000000",
		1:   "0000000000000000000000000000000000000000000000000000000000000000",
		2:   "4000000000000000000000000000000000000000000000000000000000000000",
		16:  "6e34000000000000000000000000000000000000000000000000000000000000",
		256: "6e340b9cffb37a989ca544e6bb780a2c78901d3fb33738768511a30617afa01d",
		999: "6e340b9cffb37a989ca544e6bb780a2c78901d3fb33738768511a30617afa01d",
	} {
		if got := merkle.Leaf(nil, w); got != fromHex(t, want) || merkle.Leaf([]byte{}, w) != got {
			t.Errorf("Leaf of nothing at %d: %x", w, got)
		}
	}
	for _, n := range []int{0, 1, 2, 31, 32, 33, 54, 55, 56, 62, 63, 64, 65, 127, 128, 1000, 100000} {
		for _, w := range widths {
			b := row(n+9, n)
			got := merkle.Leaf(b[:n], w)
			if want := libCut(sha256.Sum256(append([]byte{0}, row(n+9, n)[:n]...)), w); got != want {
				t.Errorf("Leaf of %d bytes at %d: %x, not %x", n, w, got, want)
			}
			if !bytes.Equal(b, row(n+9, n)) {
				t.Errorf("Leaf of %d bytes changed what it was handed", n)
			}
		}
	}
}

// P6.1
func TestNode(t *testing.T) {
	x, y := merkle.Leaf(nil, 256), merkle.Leaf([]byte{0}, 256)
	if got := merkle.Node(x, y, 256); got != fromHex(t, "fac54203e7cc696cf0dfcb42c92a1d9dbaf70ad9e621f4bd8d98662f00e3c125") {
		t.Errorf("Node: %x", got)
	}
	for _, w := range widths {
		for seed := range 30 {
			x, y := digest(seed), digest(7*seed+1)
			if got := merkle.Node(x, y, w); got != libNode(x, y, w) {
				t.Errorf("Node at %d: %x", w, got)
			}
			if x != digest(seed) || y != digest(7*seed+1) {
				t.Error("Node changed what it was handed")
			}
		}
	}
	if merkle.Node(x, y, 256) == merkle.Node(y, x, 256) {
		t.Error("Node does not tell which of two is ahead")
	}
	if merkle.Node(x, y, 256) == merkle.Leaf(append(x[:], y[:]...), 256) {
		t.Error("a node is a leaf")
	}
}

// P6.1
func TestSplit(t *testing.T) {
	for _, n := range []int{math.MinInt, math.MinInt + 1, -1 << 32, -8, -2, -1, 0, 1} {
		if got := merkle.Split(n); got != 0 {
			t.Errorf("Split(%d): %d", n, got)
		}
	}
	for n, want := range map[int]int{2: 1, 3: 2, 4: 2, 5: 4, 7: 4, 8: 4, 9: 8, 16: 8, 17: 16, 1000: 512, 1 << 62: 1 << 61, 1<<62 + 1: 1 << 62, math.MaxInt: 1 << 62, math.MaxInt - 1: 1 << 62} {
		if got := merkle.Split(n); got != want {
			t.Errorf("Split(%d): %d, not %d", n, got, want)
		}
	}
	for b := 1; b < 62; b++ {
		p := 1 << b
		if merkle.Split(p) != p/2 || merkle.Split(p+1) != p || merkle.Split(2*p-1) != p {
			t.Errorf("Split around %d: %d %d %d", p, merkle.Split(p), merkle.Split(p+1), merkle.Split(2*p-1))
		}
	}
	for n := 2; n < 5000; n++ {
		want := 1
		for 2*want < n {
			want *= 2
		}
		if got := merkle.Split(n); got != want {
			t.Errorf("Split(%d): %d, not %d", n, got, want)
		}
	}
}

// P6.2: the roots of eight texts that are known from elsewhere
func TestRootOfKnownLists(t *testing.T) {
	texts := []string{"", "\x00", "\x10", "\x20\x21", "\x30\x31", "\x40\x41\x42\x43", "\x50\x51\x52\x53\x54\x55\x56\x57", "\x60\x61\x62\x63\x64\x65\x66\x67\x68\x69\x6a\x6b\x6c\x6d\x6e\x6f"}
	var l []api.Digest
	for n, want := range []string{
		"e3b0c44298fc1c149afbf4c8996fb92427ae41e4649b934ca495991b7852b855",
		"6e340b9cffb37a989ca544e6bb780a2c78901d3fb33738768511a30617afa01d",
		"fac54203e7cc696cf0dfcb42c92a1d9dbaf70ad9e621f4bd8d98662f00e3c125",
		"aeb6bcfe274b70a14fb067a5e5578264db0fa9b51af5e0ba159158f329e06e77",
		"d37ee418976dd95753c1c73862b9398fa2a2cf9b4ff0fdfe8b30cd95209614b7",
		"4e3bbb1f7b478dcfe71fb631631519a3bca12c9aefca1612bfce4c13a86264d4",
		"76e67dadbcdf1e10e1b74ddc608abd2f98dfb16fbce75277b5232a127f2087ef",
		"ddb89be403809e325750d3d263cd78929c2942b7942a34b77e122c9594a74c8c",
		"5dc9da79a70659a9ad559cb701ded9a2ab9d823aad2f4960cfe370eff4604328",
	} {
		if got := merkle.Root(l, 256); got != fromHex(t, want) {
			t.Errorf("Root of %d: %x", n, got)
		}
		if n < len(texts) {
			l = append(l, merkle.Leaf([]byte(texts[n]), 256))
		}
	}
}

// P6.2
func TestRoot(t *testing.T) {
	for _, w := range widths {
		if got := merkle.Root(nil, w); got != libRoot(nil, w) || merkle.Root([]api.Digest{}, w) != got {
			t.Errorf("Root of none at %d: %x", w, got)
		}
		for seed := range 10 {
			if got := merkle.Root(digests(1, seed), w); got != digest(1000*seed) {
				t.Errorf("Root of one at %d: %x", w, got)
			}
		}
		for n := 2; n <= many; n++ {
			if got, want := merkle.Root(digests(n, n), w), libRoot(digests(n, n), w); got != want {
				t.Errorf("Root of %d at %d: %x, not %x", n, w, got, want)
			}
		}
	}
	for _, n := range []int{1000, 1024, 1025, 5000} {
		if got, want := merkle.Root(digests(n, n), 256), libRoot(digests(n, n), 256); got != want {
			t.Errorf("Root of %d: %x, not %x", n, got, want)
		}
	}
}

// P6.2: digests that are alike, and noughts, are digests as any other
func TestRootOfDigestsThatAreAlike(t *testing.T) {
	for n := 1; n <= 20; n++ {
		for _, d := range []api.Digest{{}, digest(1)} {
			l := slices.Repeat([]api.Digest{d}, n)
			if got, want := merkle.Root(l, 256), libRoot(l, 256); got != want {
				t.Errorf("Root of %d: %x, not %x", n, got, want)
			}
		}
	}
}

// P6.3
func TestPathOfThree(t *testing.T) {
	l := digests(3, 1)
	for i, want := range [][]api.Digest{{l[1], l[2]}, {l[0], l[2]}, {merkle.Node(l[0], l[1], 256)}} {
		if got, err := merkle.Path(l, i, 256); err != api.OK || !slices.Equal(got, want) {
			t.Errorf("Path of %d: %x, %d", i, got, err)
		}
	}
	r := digest(5)
	if !merkle.CheckPath(r, 1, 0, r, nil, 256) || !merkle.CheckPath(r, 1, 0, r, []api.Digest{}, 256) {
		t.Error("the path of one digest is not taken")
	}
}

// widthsFor answers all widths for short lists, and one for long ones, which would take long at each.
func widthsFor(n int) []int {
	if n > 35 {
		return []int{256}
	}
	return widths
}

// P6.3, P6.5
func TestEachPath(t *testing.T) {
	for n := 1; n <= many; n++ {
		for _, w := range widthsFor(n) {
			l := digests(n, n)
			rows, root := levels(l, w), merkle.Root(l, w)
			for i := range n {
				got, err := merkle.Path(l, i, w)
				if err != api.OK || !slices.Equal(got, neighbours(rows, i)) {
					t.Errorf("Path of %d in %d at %d: %x, %d", i, n, w, got, err)
				}
				if len(got) > bits.Len(uint(n)) {
					t.Errorf("Path of %d in %d has %d digests", i, n, len(got))
				}
				if !merkle.CheckPath(root, n, i, l[i], got, w) {
					t.Errorf("Path of %d in %d at %d is not taken", i, n, w)
				}
			}
		}
	}
}

// P6.3
func TestPathOfNoPlace(t *testing.T) {
	for n := range 20 {
		for _, i := range []int{math.MinInt, math.MinInt + 1, -n, -2, -1, n, n + 1, 2 * n, math.MaxInt - 1, math.MaxInt} {
			if 0 <= i && i < n {
				continue
			}
			for _, w := range widths {
				if got, err := merkle.Path(digests(n, 1), i, w); err != api.ErrArg || len(got) != 0 {
					t.Errorf("Path of %d in %d: %x, %d", i, n, got, err)
				}
			}
		}
	}
	for _, l := range [][]api.Digest{nil, {}} {
		if got, err := merkle.Path(l, 0, 256); err != api.ErrArg || len(got) != 0 {
			t.Errorf("Path in none: %x, %d", got, err)
		}
	}
}

// P6.3: at 256 bits nothing but the path itself is taken
func TestCheckPathOfSpoiltOnes(t *testing.T) {
	for n := 1; n <= 50; n++ {
		l := digests(n, n)
		root := merkle.Root(l, 256)
		for i := range n {
			path, _ := merkle.Path(l, i, 256)
			for _, bad := range spoilt(path) {
				if merkle.CheckPath(root, n, i, l[i], bad, 256) {
					t.Errorf("of %d in %d, a spoilt path of %d digests is taken", i, n, len(bad))
				}
			}
			other := l[i]
			other[i%32] ^= 128
			if merkle.CheckPath(root, n, i, other, path, 256) || merkle.CheckPath(other, n, i, l[i], path, 256) {
				t.Errorf("of %d in %d, another leaf or root is taken", i, n)
			}
			if rootIsOdd := root[31]&1 == 1; n > 1 && rootIsOdd && merkle.CheckPath(root, n, i, l[i], path, 255) {
				t.Errorf("of %d in %d, another width is taken", i, n)
			}
			for j := range n {
				if j != i && merkle.CheckPath(root, n, j, l[i], path, 256) {
					t.Errorf("of %d in %d, the place %d is taken", i, n, j)
				}
			}
		}
	}
}

// P6.3: whatever is changed, it is taken if the root is reckoned, and only then
func TestCheckPathAsReckoned(t *testing.T) {
	for _, n := range someSizes {
		for i := range n {
			for _, w := range []int{math.MinInt, 0, 1, 3, 8, 255, 256, math.MaxInt} {
				l := digests(n, n)
				root := merkle.Root(l, w)
				path, _ := merkle.Path(l, i, w)
				check := func(root api.Digest, n, i int, leaf api.Digest, path []api.Digest, w int) {
					if got, want := merkle.CheckPath(root, n, i, leaf, path, w), libCheckPath(root, n, i, leaf, path, w); got != want {
						t.Errorf("CheckPath(%x, %d, %d, %x, %x, %d): %v", root, n, i, leaf, path, w, got)
					}
				}
				for _, bad := range spoilt(path) {
					check(root, n, i, l[i], bad, w)
				}
				for _, other := range []int{math.MinInt, -n, -1, 0, 1, n - 1, n, n + 1, 2 * n, 4 * n, 64, math.MaxInt - 1, math.MaxInt} {
					check(root, other, i, l[i], path, w)
					check(root, n, other, l[i], path, w)
					check(root, other, other-1, l[i], path, w)
					check(root, n, i, l[i], path, other)
				}
				check(root, n, i, digest(-3), path, w)
				check(digest(-3), n, i, l[i], path, w)
				check(api.Digest{}, n, i, l[i], path, w)
			}
		}
	}
}

// P6.3: lengths and places that are none, though a root could be reckoned
func TestCheckPathOfNoPlace(t *testing.T) {
	d := digest(1)
	for _, c := range [][2]int{
		{0, 0}, {1, 1}, {1, -1}, {0, -1}, {-1, 0}, {-1, -1}, {-1, -2}, {-3, -4}, {1, 2}, {1, math.MaxInt}, {1, math.MinInt},
		{math.MinInt, 0}, {math.MinInt, math.MinInt}, {math.MinInt, -1}, {0, math.MinInt}, {math.MinInt, math.MaxInt}, {math.MaxInt, math.MaxInt}, {math.MaxInt, math.MinInt},
	} {
		for count := range 70 {
			for _, w := range []int{0, 256} {
				path := digests(count, 1)
				for _, root := range []api.Digest{d, {}} {
					if merkle.CheckPath(root, c[0], c[1], d, path, w) {
						t.Errorf("n %d, i %d, %d digests: taken", c[0], c[1], count)
					}
				}
			}
		}
	}
}

// bigSizes answers lengths of which no list is made.
func bigSizes() []int {
	return []int{1<<31 + 5, 1<<40 - 1, 1 << 40, 1<<40 + 1, math.MaxInt / 3, 1 << 62, 1<<62 + 1, math.MaxInt - 1, math.MaxInt}
}

// placesIn answers some places of a list of n.
func placesIn(n int) []int {
	return []int{0, 1, 2, 5, n / 7, n / 3, n/2 - 1, n / 2, n/2 + 1, n - n/5, n - 3, n - 2, n - 1}
}

// P6.3, P6.5: of long lists, a path of one length alone is taken
func TestCheckPathOfLongLists(t *testing.T) {
	for _, n := range bigSizes() {
		for _, i := range placesIn(n) {
			taken := 0
			for count := range 70 {
				path, leaf := digests(count, 3), digest(4)
				root, ok := libReckon(n, i, leaf, path, 256)
				if got := merkle.CheckPath(root, n, i, leaf, path, 256); got != ok {
					t.Errorf("%d digests, %d in %d: %v", count, i, n, got)
				} else if got && count <= bits.Len(uint(n)) {
					taken++
				}
				if merkle.CheckPath(digest(9), n, i, leaf, path, 256) {
					t.Errorf("%d digests, %d in %d: another root is taken", count, i, n)
				}
			}
			if taken != 1 {
				t.Errorf("%d in %d: paths of %d lengths are taken", i, n, taken)
			}
		}
	}
}

// P6.4
func TestGrowthOfSeven(t *testing.T) {
	l := digests(7, 1)
	node := func(i, j int) api.Digest { return libRoot(l[i:j], 256) }
	for m, want := range [][]api.Digest{
		1: {l[1], node(2, 4), node(4, 7)},
		2: {node(2, 4), node(4, 7)},
		3: {l[2], l[3], node(0, 2), node(4, 7)},
		4: {node(4, 7)},
		5: {l[4], l[5], l[6], node(0, 4)},
		6: {node(4, 6), l[6], node(0, 4)},
		7: {},
	} {
		if m == 0 {
			continue
		}
		if got, err := merkle.Growth(l, m, 256); err != api.OK || !slices.Equal(got, want) {
			t.Errorf("Growth from %d to 7: %x, %d", m, got, err)
		}
	}
	if got, err := merkle.Growth(l[:3], 2, 256); err != api.OK || !slices.Equal(got, l[2:3]) {
		t.Errorf("Growth from 2 to 3: %x, %d", got, err)
	}
}

// P6.4, P6.5
func TestEachGrowth(t *testing.T) {
	for n := 1; n <= many; n++ {
		for _, w := range widthsFor(n) {
			l := digests(n, n)
			rows, root := levels(l, w), merkle.Root(l, w)
			for m := 1; m <= n; m++ {
				got, err := merkle.Growth(l, m, w)
				if err != api.OK || !slices.Equal(got, libGrowth(rows, m)) {
					t.Errorf("Growth from %d to %d at %d: %x, %d", m, n, w, got, err)
				}
				if !merkle.CheckGrowth(merkle.Root(l[:m], w), m, root, n, got, w) {
					t.Errorf("Growth from %d to %d at %d is not taken", m, n, w)
				}
			}
		}
	}
}

// P6.4
func TestGrowthFromNoBeginning(t *testing.T) {
	for n := range 20 {
		for _, m := range []int{math.MinInt, math.MinInt + 1, -n, -2, -1, 0, n + 1, n + 2, 2*n + 1, math.MaxInt - 1, math.MaxInt} {
			for _, w := range widths {
				if got, err := merkle.Growth(digests(n, 1), m, w); err != api.ErrArg || len(got) != 0 {
					t.Errorf("Growth from %d to %d: %x, %d", m, n, got, err)
				}
			}
		}
	}
	for _, l := range [][]api.Digest{nil, {}} {
		if got, err := merkle.Growth(l, 0, 256); err != api.ErrArg || len(got) != 0 {
			t.Errorf("Growth to none: %x, %d", got, err)
		}
	}
}

// P6.4: at 256 bits nothing but the growth itself is taken
func TestCheckGrowthOfSpoiltOnes(t *testing.T) {
	for n := 1; n <= 50; n++ {
		l := digests(n, n)
		root := merkle.Root(l, 256)
		for m := 1; m <= n; m++ {
			old := merkle.Root(l[:m], 256)
			proof, _ := merkle.Growth(l, m, 256)
			for _, bad := range spoilt(proof) {
				if merkle.CheckGrowth(old, m, root, n, bad, 256) {
					t.Errorf("from %d to %d, a spoilt growth of %d digests is taken", m, n, len(bad))
				}
			}
			other := digest(-7)
			if merkle.CheckGrowth(other, m, root, n, proof, 256) || merkle.CheckGrowth(old, m, other, n, proof, 256) {
				t.Errorf("from %d to %d, another root is taken", m, n)
			}
			if m < n && merkle.CheckGrowth(root, m, old, n, proof, 256) {
				t.Errorf("from %d to %d, roots that are changed about are taken", m, n)
			}
		}
	}
}

// P6.4: whatever is changed, it is taken if both roots are reckoned, and only then
func TestCheckGrowthAsReckoned(t *testing.T) {
	for _, n := range someSizes {
		for m := 1; m <= n; m++ {
			for _, w := range []int{math.MinInt, 0, 1, 3, 8, 255, 256, math.MaxInt} {
				l := digests(n, n)
				old, root := merkle.Root(l[:m], w), merkle.Root(l, w)
				proof, _ := merkle.Growth(l, m, w)
				check := func(old api.Digest, m int, root api.Digest, n int, proof []api.Digest, w int) {
					if got, want := merkle.CheckGrowth(old, m, root, n, proof, w), libCheckGrowth(old, m, root, n, proof, w); got != want {
						t.Errorf("CheckGrowth(%x, %d, %x, %d, %x, %d): %v", old, m, root, n, proof, w, got)
					}
				}
				for _, bad := range spoilt(proof) {
					check(old, m, root, n, bad, w)
				}
				for _, other := range []int{math.MinInt, -n, -1, 0, 1, n - 1, n, n + 1, 2 * n, 4 * n, 64, math.MaxInt - 1, math.MaxInt} {
					check(old, other, root, n, proof, w)
					check(old, m, root, other, proof, w)
					check(old, other, root, other, proof, w)
					check(old, m, root, n, proof, other)
				}
				for _, other := range []api.Digest{old, root, digest(-3), {}} {
					check(other, m, root, n, proof, w)
					check(old, m, other, n, proof, w)
					check(other, m, other, n, proof, w)
				}
			}
		}
	}
}

// P6.4: where there is no growth, what is asked is whether the roots are one and the proof is empty
func TestCheckGrowthWithoutGrowth(t *testing.T) {
	x, y := digest(1), digest(2)
	for _, n := range []int{1, 2, 3, 4, 7, 8, 100, 1 << 40, math.MaxInt - 1, math.MaxInt} {
		for _, w := range widths {
			if !merkle.CheckGrowth(x, n, x, n, nil, w) || !merkle.CheckGrowth(x, n, x, n, []api.Digest{}, w) {
				t.Errorf("%d at %d: not taken", n, w)
			}
			if merkle.CheckGrowth(x, n, y, n, nil, w) {
				t.Errorf("%d at %d: unlike roots are taken", n, w)
			}
			if merkle.CheckGrowth(x, n, x, n, []api.Digest{x}, w) || merkle.CheckGrowth(x, n, x, n, []api.Digest{{}}, w) {
				t.Errorf("%d at %d: a proof that isn't empty is taken", n, w)
			}
		}
	}
	for _, n := range []int{0, -1, -2, math.MinInt} {
		if merkle.CheckGrowth(x, n, x, n, nil, 256) {
			t.Errorf("%d: taken", n)
		}
	}
}

// P6.4: beginnings that are none, though roots could be reckoned
func TestCheckGrowthFromNoBeginning(t *testing.T) {
	d := digest(1)
	for _, c := range [][2]int{
		{0, 0}, {0, 1}, {0, 2}, {0, 8}, {-1, 1}, {-1, -1}, {-2, -1}, {2, 1}, {3, 2}, {1, 0}, {1, -1}, {9, 8}, {math.MinInt, 1},
		{math.MinInt, math.MinInt}, {math.MinInt, math.MaxInt}, {math.MaxInt, math.MinInt}, {math.MaxInt, math.MaxInt - 1}, {math.MaxInt, 1}, {0, math.MaxInt},
	} {
		for count := range 70 {
			for _, w := range []int{0, 256} {
				for _, root := range []api.Digest{d, {}} {
					if merkle.CheckGrowth(root, c[0], root, c[1], digests(count, 1), w) {
						t.Errorf("from %d to %d, %d digests: taken", c[0], c[1], count)
					}
				}
			}
		}
	}
}

// P6.4, P6.5: of long lists, a growth of one length alone is taken
func TestCheckGrowthOfLongLists(t *testing.T) {
	for _, n := range bigSizes() {
		for _, i := range placesIn(n)[1:] {
			for _, m := range []int{i, 1 << (bits.Len(uint(i)) - 1)} {
				taken := 0
				for count := range 70 {
					proof, old := digests(count, 3), digest(4)
					if bits.OnesCount(uint(m)) != 1 {
						old, _, _ = libGrow(old, m, n, proof, 256)
					}
					_, root, ok := libGrow(old, m, n, proof, 256)
					if got := merkle.CheckGrowth(old, m, root, n, proof, 256); got != (ok && libCheckGrowth(old, m, root, n, proof, 256)) {
						t.Errorf("%d digests, from %d to %d: %v", count, m, n, got)
					} else if got {
						taken++
					}
					if merkle.CheckGrowth(old, m, digest(9), n, proof, 256) || count > 0 && merkle.CheckGrowth(digest(9), m, root, n, proof, 256) {
						t.Errorf("%d digests, from %d to %d: another root is taken", count, m, n)
					}
				}
				if taken != 1 {
					t.Errorf("from %d to %d: growths of %d lengths are taken", m, n, taken)
				}
			}
		}
	}
}

// P6.5
func TestRootIsNodeOfTwoPieces(t *testing.T) {
	for n := 2; n <= many; n++ {
		for _, w := range widths {
			l := digests(n, n)
			k := merkle.Split(n)
			if merkle.Root(l, w) != merkle.Node(merkle.Root(l[:k], w), merkle.Root(l[k:], w), w) {
				t.Errorf("%d at %d", n, w)
			}
		}
	}
}

// P6.2 to P6.4, R3
func TestNothingHandedInIsChanged(t *testing.T) {
	for n := 1; n <= 40; n++ {
		l := digests(n, n)
		root := merkle.Root(l, 256)
		for i := range n {
			path, _ := merkle.Path(l, i, 256)
			proof, _ := merkle.Growth(l, i+1, 256)
			for _, p := range [][]api.Digest{path, proof, path[:len(path)/2], proof[:len(proof)/2], append(slices.Clone(path), root)} {
				p = slices.Grow(p, 3)
				kept := slices.Clone(p[:cap(p)])
				merkle.CheckPath(root, n, i, l[i], p, 256)
				merkle.CheckGrowth(root, i+1, root, n, p, 256)
				if !slices.Equal(p[:cap(p)], kept) {
					t.Errorf("%d in %d: a proof was changed", i, n)
				}
			}
		}
		if whole := l[:cap(l)]; !slices.Equal(whole, digests(n, n)[:len(whole)]) {
			t.Errorf("a list of %d was changed", n)
		}
	}
}

// P6.3, P6.4, R3
func TestRefusalsHaveNoPieceOfTheList(t *testing.T) {
	for n := range 9 {
		l := digests(n, n)
		path, _ := merkle.Path(l, n, 256)
		proof, _ := merkle.Growth(l, n+1, 256)
		clear(path[:cap(path)])
		clear(proof[:cap(proof)])
		if whole := l[:cap(l)]; !slices.Equal(whole, digests(n, n)[:len(whole)]) {
			t.Errorf("a list of %d hangs on what a refusal answers", n)
		}
	}
}

// P6.3, P6.4, R3
func TestAnswersAreNobodyElses(t *testing.T) {
	for n := 1; n <= 40; n++ {
		for i := range n {
			l := digests(n, n)
			path, _ := merkle.Path(l, i, 256)
			proof, _ := merkle.Growth(l, i+1, 256)
			wantPath, wantProof := slices.Clone(path), slices.Clone(proof)
			clear(l[:cap(l)])
			if !slices.Equal(path, wantPath) || !slices.Equal(proof, wantProof) {
				t.Errorf("%d in %d: an answer hangs on the list", i, n)
			}
			l = digests(n, n)
			path, _ = merkle.Path(l, i, 256)
			clear(path[:cap(path)])
			proof, _ = merkle.Growth(l, i+1, 256)
			clear(proof[:cap(proof)])
			if !slices.Equal(l[:cap(l)], digests(n, n)[:cap(l)]) {
				t.Errorf("%d in %d: the list hangs on an answer", i, n)
			}
			path, _ = merkle.Path(l, i, 256)
			proof, _ = merkle.Growth(l, i+1, 256)
			if !slices.Equal(path, wantPath) || !slices.Equal(proof, wantProof) {
				t.Errorf("%d in %d: answers hang on earlier ones", i, n)
			}
		}
	}
}
