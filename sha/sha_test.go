package sha_test

import (
	"bytes"
	"crypto/sha256"
	"encoding"
	"encoding/binary"
	"encoding/hex"
	"math"
	"testing"

	"inquest/api"
	"inquest/sha"
)

// edges has lengths around those at which padding takes one block more.
var edges = []int{0, 1, 3, 4, 54, 55, 56, 57, 62, 63, 64, 65, 111, 118, 119, 120, 121, 127, 128, 129, 183, 184, 1000}

// letters answers n bytes that look like chance, of all values, another row for each seed.
func letters(n int, seed uint64) []byte {
	b := make([]byte, n)
	for i := range b {
		seed = seed*6364136223846793005 + 1442695040888963407
		b[i] = byte(seed >> 56)
	}
	return b
}

// digest reads a sum that is written in hexadecimal digits, with blanks between.
func digest(t *testing.T, s string) api.Digest {
	t.Helper()
	b, err := hex.DecodeString(string(bytes.ReplaceAll([]byte(s), []byte(" "), nil)))
	if err != nil || len(b) != len(api.Digest{}) {
		t.Fatalf("%q is no sum", s)
	}
	return api.Digest(b)
}

// blockOf does what Block must do by the library's SHA-256, whose inner state is set and read as it is marshalled.
func blockOf(t *testing.T, s [8]uint32, b [64]byte) [8]uint32 {
	t.Helper()
	h := sha256.New()
	m, err := h.(encoding.BinaryMarshaler).MarshalBinary()
	if err != nil {
		t.Fatal(err)
	}
	const magic = 4
	for i, x := range s {
		binary.BigEndian.PutUint32(m[magic+4*i:], x)
	}
	if err := h.(encoding.BinaryUnmarshaler).UnmarshalBinary(m); err != nil {
		t.Fatal(err)
	}
	h.Write(b[:])
	if m, err = h.(encoding.BinaryMarshaler).MarshalBinary(); err != nil {
		t.Fatal(err)
	}
	for i := range s {
		s[i] = binary.BigEndian.Uint32(m[magic+4*i:])
	}
	return s
}

// P2.1
func TestFirst(t *testing.T) {
	want := [8]uint32{0x6a09e667, 0xbb67ae85, 0x3c6ef372, 0xa54ff53a, 0x510e527f, 0x9b05688c, 0x1f83d9ab, 0x5be0cd19}
	if got := sha.First(); got != want {
		t.Errorf("First: %x, not %x", got, want)
	}
}

// P2.1
func TestBlockOfAbc(t *testing.T) {
	// The one block of abc, written out: its sum is the chapter's.
	b := [64]byte{'a', 'b', 'c', 128}
	b[63] = 24
	want := [8]uint32{0xba7816bf, 0x8f01cfea, 0x414140de, 0x5dae2223, 0xb00361a3, 0x96177a9c, 0xb410ff61, 0xf20015ad}
	if got := sha.Block(sha.First(), b); got != want {
		t.Errorf("Block: %x, not %x", got, want)
	}
}

// P2.1
func TestBlockOfAnyState(t *testing.T) {
	full := [8]uint32{}
	for i := range full {
		full[i] = math.MaxUint32
	}
	for _, s := range [][8]uint32{{}, full, sha.First(), {1, 2, 3, 4, 5, 6, 7, 8}} {
		blocks := [][64]byte{{}, {0: 1}, {63: 1}, [64]byte(bytes.Repeat([]byte{255}, 64))}
		for i := range 50 {
			blocks = append(blocks, [64]byte(letters(64, uint64(i))))
		}
		for _, b := range blocks {
			want := blockOf(t, s, b)
			kept, whole := s, b
			got := sha.Block(s, b)
			if got != want {
				t.Fatalf("Block(%x, %x): %x, not %x", s, b, got, want)
			}
			if s != kept || b != whole {
				t.Fatal("Block changed what it was handed")
			}
			s = got
		}
	}
}

// P2.2
func TestPad(t *testing.T) {
	for _, c := range []struct {
		n     uint64
		zeros int
		bits  string
	}{
		{0, 55, "0000000000000000"},
		{1, 54, "0000000000000008"},
		{54, 1, "00000000000001b0"},
		{55, 0, "00000000000001b8"},
		{56, 63, "00000000000001c0"},
		{57, 62, "00000000000001c8"},
		{63, 56, "00000000000001f8"},
		{64, 55, "0000000000000200"},
		{65, 54, "0000000000000208"},
		{119, 0, "00000000000003b8"},
		{120, 63, "00000000000003c0"},
		{128, 55, "0000000000000400"},
		{0x0123456789abcdef >> 3, 58, "0123456789abcde8"},
		{1<<61 - 1, 56, "fffffffffffffff8"},
		{1 << 61, 55, "0000000000000000"},
		{1<<61 + 1, 54, "0000000000000008"},
		{1<<63 + 56, 63, "00000000000001c0"},
		{math.MaxUint64, 56, "fffffffffffffff8"},
		{math.MaxUint64 - 7, 63, "ffffffffffffffc0"},
		{math.MaxUint64 - 8, 0, "ffffffffffffffb8"},
		{math.MaxUint64 - 9, 1, "ffffffffffffffb0"},
	} {
		bits, err := hex.DecodeString(c.bits)
		if err != nil {
			t.Fatal(err)
		}
		want := append(append([]byte{128}, make([]byte, c.zeros)...), bits...)
		if got := sha.Pad(c.n); !bytes.Equal(got, want) {
			t.Errorf("Pad(%d): %x, not %x", c.n, got, want)
		}
	}
	if n := len(sha.Pad(56)); n != 72 {
		t.Errorf("Pad(56): %d bytes, not 72", n)
	}
}

// P2.2
func TestPadOfEachRemainder(t *testing.T) {
	for n := range uint64(300) {
		for _, x := range []uint64{n, 1<<61 - 150 + n, math.MaxUint64 - n} {
			p := sha.Pad(x)
			if len(p) < 9 || len(p) > 72 || (x%64+uint64(len(p)))%64 != 0 {
				t.Fatalf("Pad(%d): %d bytes", x, len(p))
			}
			end := len(p) - 8
			if p[0] != 128 || !bytes.Equal(p[1:end], make([]byte, end-1)) || binary.BigEndian.Uint64(p[end:]) != x<<3 {
				t.Fatalf("Pad(%d): %x", x, p)
			}
		}
	}
}

// P2.2 (new memory: R3)
func TestPadIsNew(t *testing.T) {
	p := sha.Pad(3)
	for i := range p {
		p[i] = 7
	}
	if q := sha.Pad(3); len(q) != 61 || q[0] != 128 || q[1] != 0 || q[60] != 24 {
		t.Errorf("Pad(3), asked for again: %x", q)
	}
}

// P2.2
func TestSumOfExamples(t *testing.T) {
	for _, c := range []struct{ text, want string }{
		{"", "e3b0c442 98fc1c14 9afbf4c8 996fb924 27ae41e4 649b934c a495991b 7852b855"},
		{"abc", "ba7816bf 8f01cfea 414140de 5dae2223 b00361a3 96177a9c b410ff61 f20015ad"},
		{"abcdbcdecdefdefgefghfghighijhijkijkljklmklmnlmnomnopnopq", "248d6a61 d20638b8 e5c02693 0c3e6039 a33ce459 64ff2167 f6ecedd4 19db06c1"},
	} {
		if got := sha.Sum([]byte(c.text)); got != digest(t, c.want) {
			t.Errorf("Sum(%q): %x, not %s", c.text, got, c.want)
		}
	}
	if sha.Sum(nil) != sha.Sum([]byte{}) {
		t.Error("Sum of nil is another one than that of nothing")
	}
}

// P2.2
func TestSumOfLengths(t *testing.T) {
	long := letters(1000, 1)
	lengths := edges
	for n := range 260 {
		lengths = append(lengths, n)
	}
	for _, n := range lengths {
		b := long[:n]
		if got := sha.Sum(b); got != sha256.Sum256(b) {
			t.Errorf("Sum of %d bytes: %x, not %x", n, got, sha256.Sum256(b))
		}
	}
	if !bytes.Equal(long, letters(1000, 1)) {
		t.Error("Sum changed its bytes")
	}
	big := letters(1<<20+13, 2)
	if got := sha.Sum(big); got != sha256.Sum256(big) {
		t.Errorf("Sum of a long text: %x", got)
	}
}

// P2.2: the sum by the package's own parts.
func TestSumIsBlocks(t *testing.T) {
	for _, n := range edges {
		b := letters(n, 3)
		all := append(bytes.Clone(b), sha.Pad(uint64(n))...)
		s := sha.First()
		for i := 0; i < len(all); i += 64 {
			s = sha.Block(s, [64]byte(all[i:i+64]))
		}
		var want api.Digest
		for i, x := range s {
			binary.BigEndian.PutUint32(want[4*i:], x)
		}
		if got := sha.Sum(b); got != want {
			t.Errorf("Sum of %d bytes: %x, by blocks %x", n, got, want)
		}
	}
}

// P2.3
func TestHash(t *testing.T) {
	h := sha.New()
	if h.Count() != 0 || h.Sum() != sha.Sum(nil) {
		t.Errorf("a new hash: %d, %x", h.Count(), h.Sum())
	}
	for i, c := range []struct {
		add, all string
	}{{"a", "a"}, {"", "a"}, {"bc", "abc"}, {"d", "abcd"}} {
		if e := h.Add([]byte(c.add)); e != api.OK {
			t.Fatalf("Add(%q): %v", c.add, e)
		}
		if h.Count() != len(c.all) || h.Sum() != sha256.Sum256([]byte(c.all)) {
			t.Errorf("%d: %d, %x", i, h.Count(), h.Sum())
		}
	}
	if e := h.Add(nil); e != api.OK || h.Count() != 4 || h.Sum() != sha256.Sum256([]byte("abcd")) {
		t.Errorf("Add(nil): %v, %d, %x", e, h.Count(), h.Sum())
	}
}

// P2.3: asking for the sum, however often, changes nothing.
func TestSumGoesOn(t *testing.T) {
	all := letters(200, 4)
	h := sha.New()
	for i := range all {
		want := sha256.Sum256(all[:i])
		for range 2 {
			if got := h.Sum(); got != want || h.Count() != i {
				t.Fatalf("behind %d bytes: %x, not %x; count %d", i, got, want, h.Count())
			}
		}
		h.Add(all[i : i+1])
	}
	if h.Sum() != sha256.Sum256(all) {
		t.Error("the whole has another sum")
	}
}

// P2.3: a hash that New did not make (R1).
func TestHashThatNewDidNotMake(t *testing.T) {
	for _, h := range []*sha.Hash{nil, {}, new(sha.Hash)} {
		for range 2 {
			for _, n := range []int{3, 0, 64, 100} {
				if e := h.Add(letters(n, 5)); e != api.ErrNil {
					t.Errorf("Add: %v", e)
				}
			}
			if d := h.Sum(); d != (api.Digest{}) {
				t.Errorf("Sum: %x", d)
			}
			if n := h.Count(); n != 0 {
				t.Errorf("Count: %d", n)
			}
		}
	}
}

// P2.3: what is added is neither changed nor kept (R3).
func TestAddKeepsNothing(t *testing.T) {
	for _, n := range []int{3, 63, 64, 65, 130} {
		b := letters(n, 6)
		want := sha256.Sum256(b)
		h := sha.New()
		h.Add(b)
		if !bytes.Equal(b, letters(n, 6)) {
			t.Error("Add changed its bytes")
		}
		for i := range b {
			b[i]++
		}
		d := h.Sum()
		if d != want {
			t.Errorf("%d bytes: the sum hangs on what became of them", n)
		}
		d[0]++
		if h.Sum() != want {
			t.Error("the sum hangs on what became of an answer")
		}
	}
}

// P2.4: cut in two, and in three.
func TestPiecesCutAnywhere(t *testing.T) {
	for _, n := range []int{0, 1, 55, 56, 63, 64, 65, 119, 120, 128, 200} {
		b := letters(n, 7)
		want := sha.Sum(b)
		for i := range n + 1 {
			for _, j := range []int{i, (i + n) / 2, n} {
				h := sha.New()
				for _, piece := range [][]byte{b[:i], b[i:j], b[j:]} {
					if e := h.Add(piece); e != api.OK {
						t.Fatal(e)
					}
				}
				if h.Sum() != want || h.Count() != n {
					t.Fatalf("%d bytes, cut at %d and %d: %x, not %x; count %d", n, i, j, h.Sum(), want, h.Count())
				}
			}
		}
	}
}

// P2.4: pieces of one length, the sum asked for between them.
func TestEvenPieces(t *testing.T) {
	b := letters(700, 8)
	for size := 1; size <= 150; size++ {
		h := sha.New()
		for i := 0; i < len(b); i += size {
			end := min(i+size, len(b))
			h.Add(b[i:end])
			if h.Sum() != sha256.Sum256(b[:end]) || h.Count() != end {
				t.Fatalf("pieces of %d bytes, behind %d: %x", size, end, h.Sum())
			}
		}
	}
}

// P2.4: two hashes side by side (R4).
func TestTwoHashes(t *testing.T) {
	x, y := letters(300, 9), letters(300, 10)
	a, b := sha.New(), sha.New()
	for i := 0; i < 300; i += 30 {
		a.Add(x[i : i+30])
		if b.Sum() != sha256.Sum256(y[:i]) || b.Count() != i {
			t.Fatalf("one hash changed another one, at %d", i)
		}
		b.Add(y[i : i+30])
		if a.Sum() != sha256.Sum256(x[:i+30]) || a.Count() != i+30 {
			t.Fatalf("one hash changed another one, at %d", i)
		}
	}
	if sha.New().Sum() != sha.Sum(nil) {
		t.Error("a new hash begins with what others were given")
	}
}
