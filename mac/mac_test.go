package mac_test

import (
	"bytes"
	"crypto/hmac"
	"crypto/sha256"
	"encoding/hex"
	"strings"
	"testing"

	"inquest/api"
	"inquest/mac"
	"inquest/sha"
)

// keyLengths has those of the chapter's edges: shorter than a block, a block, and longer.
var keyLengths = []int{0, 1, 2, 20, 31, 32, 33, 62, 63, 64, 65, 66, 127, 128, 129, 131, 192, 300, 777}

// textLengths has those around which a block of 64 bytes is full, or is too full for what is padded.
var textLengths = []int{0, 1, 2, 28, 31, 32, 33, 54, 55, 56, 57, 63, 64, 65, 119, 120, 127, 128, 129, 500, 1000, 5000}

// row answers n bytes of all values, another row for each seed.
func row(n, seed int) []byte {
	b := make([]byte, n)
	for i := range b {
		b[i] = byte(37*seed + i*i + i>>3)
	}
	return b
}

// libSum does what Sum must do by the library's HMAC.
func libSum(key, text []byte) api.Digest {
	h := hmac.New(sha256.New, key)
	h.Write(text)
	return api.Digest(h.Sum(nil))
}

// digest reads a sum that is written in hexadecimal digits, with blanks between.
func digest(t *testing.T, s string) api.Digest {
	t.Helper()
	b, err := hex.DecodeString(strings.ReplaceAll(s, " ", ""))
	if err != nil || len(b) != len(api.Digest{}) {
		t.Fatalf("%q is no sum", s)
	}
	return api.Digest(b)
}

// counted answers the bytes 1 to n.
func counted(n int) []byte {
	b := make([]byte, n)
	for i := range b {
		b[i] = byte(i + 1)
	}
	return b
}

// P3.1: the chapter's two examples, three of RFC 4231, and nothing by no key.
func TestSumOfExamples(t *testing.T) {
	for _, c := range []struct {
		key, text []byte
		want      string
	}{
		{bytes.Repeat([]byte{11}, 20), []byte("Hi There"),
			"b0344c61 d8db3853 5ca8afce af0bf12b 881dc200 c9833da7 26e9376c 2e32cff7"},
		{[]byte("Jefe"), []byte("what do ya want for nothing?"),
			"5bdcc146 bf60754e 6a042426 089575c7 5a003f08 9d273983 9dec58b9 64ec3843"},
		{bytes.Repeat([]byte{0xaa}, 20), bytes.Repeat([]byte{0xdd}, 50),
			"773ea91e 36800e46 854db8eb d09181a7 2959098b 3ef8c122 d9635514 ced565fe"},
		{counted(25), bytes.Repeat([]byte{0xcd}, 50),
			"82558a38 9a443c0e a4cc8198 99f2083a 85f0faa3 e578f807 7a2e3ff4 6729665b"},
		{bytes.Repeat([]byte{0xaa}, 131), []byte("Test Using Larger Than Block-Size Key - Hash Key First"),
			"60e43159 1ee0b67f 0d8a26aa cbf5b77f 8e0bc621 3728c514 0546040f 0ee37f54"},
		{nil, nil,
			"b613679a 0814d9ec 772f95d7 78c35fc5 ff1697c4 93715653 c6c71214 4292c5ad"},
	} {
		if got, want := mac.Sum(c.key, c.text), digest(t, c.want); got != want {
			t.Errorf("Sum(%x, %q): %x, not %x", c.key, c.text, got, want)
		}
	}
}

// chapterSum does what Sum must do by the chapter's own words, with nothing but sha.Sum.
func chapterSum(key, text []byte) api.Digest {
	block := bytes.Clone(key)
	if len(key) > 64 {
		d := sha.Sum(key)
		block = d[:]
	}
	for len(block) < 64 {
		block = append(block, 0)
	}
	var inner, outer []byte
	for _, x := range block {
		inner = append(inner, x^54)
		outer = append(outer, x^92)
	}
	d := sha.Sum(append(inner, text...))
	return sha.Sum(append(outer, d[:]...))
}

// P3.1: keys and texts of all lengths.
func TestSumOfAllLengths(t *testing.T) {
	for _, k := range keyLengths {
		for _, n := range textLengths {
			key, text := row(k, k), row(n, n+1)
			got := mac.Sum(key, text)
			if want := libSum(key, text); got != want {
				t.Errorf("Sum of a key of %d bytes and a text of %d: %x, not %x", k, n, got, want)
			}
			if want := chapterSum(key, text); got != want {
				t.Errorf("Sum of a key of %d bytes and a text of %d: %x, by the chapter %x", k, n, got, want)
			}
		}
	}
}

// P3.1: every length of a key around a block, and every length of a text up to some blocks.
func TestSumOfEachLength(t *testing.T) {
	text := row(100, 3)
	for k := range 200 {
		key := row(k, 4)
		if got, want := mac.Sum(key, text), libSum(key, text); got != want {
			t.Errorf("Sum by a key of %d bytes: %x, not %x", k, got, want)
		}
	}
	key := row(40, 5)
	for n := range 300 {
		text := row(n, 6)
		if got, want := mac.Sum(key, text), libSum(key, text); got != want {
			t.Errorf("Sum of a text of %d bytes: %x, not %x", n, got, want)
		}
	}
}

// P3.1: nil and empty lists are alike (R3).
func TestSumOfNilAndEmpty(t *testing.T) {
	want := libSum(nil, nil)
	for _, key := range [][]byte{nil, {}} {
		for _, text := range [][]byte{nil, {}} {
			if got := mac.Sum(key, text); got != want {
				t.Errorf("Sum(%#v, %#v): %x, not %x", key, text, got, want)
			}
		}
	}
}

// P3.1: each bit of the key and of the text tells, and so does which of both a byte stands in.
func TestSumHangsOnEachBit(t *testing.T) {
	for _, k := range []int{1, 63, 64, 65, 128} {
		key, text := row(k, 7), row(70, 8)
		sums := map[api.Digest]int{mac.Sum(key, text): 1}
		for _, b := range [][]byte{key, text} {
			for i := range 8 * len(b) {
				b[i/8] ^= 1 << (i % 8)
				sums[mac.Sum(key, text)]++
				b[i/8] ^= 1 << (i % 8)
			}
		}
		if want := 1 + 8*len(key) + 8*len(text); len(sums) != want {
			t.Errorf("a key of %d bytes: %d sums of %d", k, len(sums), want)
		}
	}
	if mac.Sum([]byte("ab"), []byte("c")) == mac.Sum([]byte("a"), []byte("bc")) {
		t.Error("a key's end is as good as a text's beginning")
	}
}

// P3.2
func TestSame(t *testing.T) {
	for _, c := range []struct {
		a, b string
		want bool
	}{
		{"", "", true},
		{"a", "a", true},
		{"\x00", "\x00", true},
		{"\xff", "\xff", true},
		{"abc", "abc", true},
		{"a", "", false},
		{"\x00", "", false},
		{"a", "b", false},
		{"a", "A", false},
		{"\x00", "\x80", false},
		{"\x00", "\x01", false},
		{"ab", "ba", false},
		{"ab", "abc", false},
		{"bc", "abc", false},
		{"ab", "ab\x00", false},
		{"ab", "\x00ab", false},
		{"\x00\x00", "\x00", false},
		// Differences that would be lost, if they were added up, or exclusive-ored with one another.
		{"\x01\x01", "\x00\x00", false},
		{"\x80\x80", "\x00\x00", false},
		{"\x01\xff", "\x00\x00", false},
		{"\x02\x00", "\x01\x01", false},
	} {
		if got := mac.Same([]byte(c.a), []byte(c.b)); got != c.want {
			t.Errorf("Same(%q, %q): %v", c.a, c.b, got)
		}
		if got := mac.Same([]byte(c.b), []byte(c.a)); got != c.want {
			t.Errorf("Same(%q, %q): %v", c.b, c.a, got)
		}
	}
}

// P3.2: nil and empty lists are alike (R3).
func TestSameOfNothing(t *testing.T) {
	for _, a := range [][]byte{nil, {}} {
		for _, b := range [][]byte{nil, {}} {
			if !mac.Same(a, b) {
				t.Errorf("Same(%#v, %#v): false", a, b)
			}
		}
		if mac.Same(a, []byte{0}) || mac.Same([]byte{0}, a) {
			t.Errorf("nothing (%#v) is the same as a nought", a)
		}
	}
}

// P3.2: one byte differs, at any place, by any bit.
func TestSameOfOneByteChanged(t *testing.T) {
	for _, n := range []int{1, 2, 31, 32, 33, 64, 200} {
		a, b := row(n, 9), row(n, 9)
		if !mac.Same(a, b) || !mac.Same(a, a) {
			t.Errorf("%d bytes aren't the same as themselves", n)
		}
		for i := range n {
			for bit := range 8 {
				b[i] ^= 1 << bit
				if mac.Same(a, b) || mac.Same(b, a) {
					t.Errorf("%d bytes, bit %d of byte %d turned about: the same", n, bit, i)
				}
				b[i] ^= 1 << bit
			}
		}
	}
}

// P3.2: rows of unlike lengths, of which the shorter begins, or ends, the longer.
func TestSameOfUnlikeLengths(t *testing.T) {
	whole, noughts := row(70, 10), make([]byte, 70)
	for n := range whole {
		for _, b := range [][]byte{whole[:n], whole[70-n:], noughts[:n]} {
			if mac.Same(whole, b) || mac.Same(b, whole) || mac.Same(noughts, b) || mac.Same(b, noughts) {
				t.Errorf("70 bytes are the same as %d", n)
			}
		}
	}
}

// checkNear asks Check for the sum, and for what is nearly the sum.
func checkNear(t *testing.T, key, text []byte) {
	t.Helper()
	d := libSum(key, text)
	if !mac.Check(key, text, d[:]) {
		t.Errorf("key %x, text %x: not its sum", key, text)
	}
	for i := range d {
		wrong := d
		wrong[i] ^= byte(1 + i)
		if mac.Check(key, text, wrong[:]) {
			t.Errorf("key %x, text %x: its sum with byte %d changed", key, text, i)
		}
	}
	for n := range d {
		if mac.Check(key, text, d[:n]) {
			t.Errorf("key %x, text %x: the first %d bytes of its sum", key, text, n)
		}
	}
	plain := sha.Sum(text)
	for name, wrong := range map[string][]byte{
		"nil":                       nil,
		"nothing":                   {},
		"all but the first byte":    d[1:],
		"a nought behind":           append(bytes.Clone(d[:]), 0),
		"a nought ahead":            append([]byte{0}, d[:]...),
		"its first byte behind":     append(bytes.Clone(d[:]), d[0]),
		"twice the sum":             append(bytes.Clone(d[:]), d[:]...),
		"noughts":                   make([]byte, 32),
		"the sum without a key":     plain[:],
		"the sum in letters":        []byte(hex.EncodeToString(d[:])),
		"the key":                   key,
		"the text":                  text,
		"the sum, turned end about": reversed(d[:]),
	} {
		if mac.Check(key, text, wrong) {
			t.Errorf("key %x, text %x: %s", key, text, name)
		}
	}
}

// reversed answers bytes, the last one first.
func reversed(b []byte) []byte {
	var r []byte
	for i := range b {
		r = append(r, b[len(b)-1-i])
	}
	return r
}

// P3.2
func TestCheck(t *testing.T) {
	for _, k := range []int{0, 1, 32, 63, 64, 65, 128, 300} {
		for _, n := range []int{0, 1, 32, 64, 200} {
			checkNear(t, row(k, k+11), row(n, n+12))
		}
	}
}

// P3.2: a sum by another key, or of another text.
func TestCheckOfAnother(t *testing.T) {
	key, text := []byte("Jefe"), []byte("what do ya want for nothing?")
	d := mac.Sum(key, text)
	if !mac.Check(key, text, d[:]) {
		t.Fatal("not its sum")
	}
	for _, c := range []struct{ key, text string }{
		{"Jefe", ""},
		{"Jefe", "what do ya want for nothing"},
		{"Jefe", "what do ya want for nothing?\x00"},
		{"Jefe", "\x00what do ya want for nothing?"},
		{"", "what do ya want for nothing?"},
		{"Jef", "what do ya want for nothing?"},
		{"jefe", "what do ya want for nothing?"},
		{"Jefe1", "what do ya want for nothing?"},
		{"Jef", "ewhat do ya want for nothing?"},
		{"what do ya want for nothing?", "Jefe"},
		{"", ""},
	} {
		if mac.Check([]byte(c.key), []byte(c.text), d[:]) {
			t.Errorf("Check(%q, %q): true", c.key, c.text)
		}
	}
}

// P3.2
func TestKey(t *testing.T) {
	names := []string{"", "a", "token", "head", "a\x00", "\x00", "\xff\xfe", "\u00e9", strings.Repeat("n", 64), strings.Repeat("n", 300)}
	for _, k := range keyLengths {
		seen := map[string]string{}
		for _, name := range names {
			key := row(k, 13)
			got, want := mac.Key(key, name), libSum(key, []byte(name))
			if !bytes.Equal(got, want[:]) {
				t.Errorf("Key of %d bytes and %q: %x, not %x", k, name, got, want)
			}
			if other, ok := seen[string(got)]; ok {
				t.Errorf("Key of %d bytes: %q as %q", k, name, other)
			}
			seen[string(got)] = name
		}
	}
	want := digest(t, "5bdcc146 bf60754e 6a042426 089575c7 5a003f08 9d273983 9dec58b9 64ec3843")
	if got := mac.Key([]byte("Jefe"), "what do ya want for nothing?"); !bytes.Equal(got, want[:]) {
		t.Errorf("Key: %x, not %x", got, want)
	}
	if got, want := mac.Key(nil, ""), libSum(nil, nil); !bytes.Equal(got, want[:]) {
		t.Errorf("Key of nothing: %x, not %x", got, want)
	}
}

// P3.2: a key of Key is a key.
func TestKeyOfAKey(t *testing.T) {
	key := mac.Key([]byte("root"), "token")
	d := libSum(key, []byte("a"))
	if mac.Sum(key, []byte("a")) != d || !mac.Check(key, []byte("a"), d[:]) {
		t.Error("a key of Key does not sum as its bytes do")
	}
	other := mac.Key([]byte("root"), "head")
	if mac.Check(other, []byte("a"), d[:]) || mac.Check([]byte("root"), []byte("a"), d[:]) {
		t.Error("a key for one purpose is as good as one for another")
	}
}

// P3.3: noughts behind a key, up to 64 bytes, and one more.
func TestNoughtsBehindAKey(t *testing.T) {
	text := []byte("text")
	for k := range 65 {
		key := bytes.Repeat([]byte{byte(k + 1)}, k)
		want := mac.Sum(key, text)
		for n := k; n <= 64; n++ {
			long := append(bytes.Clone(key), make([]byte, n-k)...)
			if got := mac.Sum(long, text); got != want || !mac.Check(long, text, want[:]) {
				t.Errorf("a key of %d bytes and %d noughts: %x, not %x", k, n-k, got, want)
			}
			if !bytes.Equal(mac.Key(long, "name"), mac.Key(key, "name")) {
				t.Errorf("Key of %d bytes and %d noughts is another one", k, n-k)
			}
		}
		for _, n := range []int{65, 66, 128} {
			long := append(bytes.Clone(key), make([]byte, n-k)...)
			if mac.Sum(long, text) == want || mac.Check(long, text, want[:]) {
				t.Errorf("a key of %d bytes and %d noughts is as without them", k, n-k)
			}
		}
	}
}

// P3.3: noughts ahead of a key, or in it, are not those behind it.
func TestNoughtsElsewhere(t *testing.T) {
	want := mac.Sum([]byte("key"), nil)
	for _, key := range []string{"\x00key", "k\x00ey", "ke\x00y", "key\x00\x01", "ke"} {
		if mac.Sum([]byte(key), nil) == want {
			t.Errorf("%q is as key", key)
		}
	}
}

// P3.3: a key of more than 64 bytes is as its sum; a key of 64 or fewer is not.
func TestLongKeyIsAsItsSum(t *testing.T) {
	text := row(90, 14)
	for _, k := range []int{0, 1, 32, 63, 64, 65, 66, 127, 128, 129, 300, 1000} {
		key := row(k, 15)
		d := sha.Sum(key)
		if same := mac.Sum(key, text) == mac.Sum(d[:], text); same != (k > 64) {
			t.Errorf("a key of %d bytes and its sum: the same is %v", k, same)
		}
		if same := bytes.Equal(mac.Key(key, "name"), mac.Key(d[:], "name")); same != (k > 64) {
			t.Errorf("Key of %d bytes and of its sum: the same is %v", k, same)
		}
		whole := append(d[:], make([]byte, 32)...)
		if same := mac.Sum(key, text) == mac.Sum(whole, text); same != (k > 64) {
			t.Errorf("a key of %d bytes and its sum with noughts: the same is %v", k, same)
		}
	}
}

// roomy answers bytes behind which there is room that is not theirs, and all of it.
func roomy(n, seed int) (part, whole []byte) {
	whole = row(n+200, seed)
	return whole[:n], whole
}

// P3.1, P3.2 (R3): neither what is handed in nor the memory behind it is changed.
func TestWhatIsHandedInStays(t *testing.T) {
	for _, k := range keyLengths {
		key, wholeKey := roomy(k, 16)
		text, wholeText := roomy(150, 17)
		sum, wholeSum := roomy(32, 18)
		d := mac.Sum(key, text)
		copy(sum, d[:])
		kept := bytes.Clone(wholeSum)
		mac.Sum(key, text)
		mac.Same(key, text)
		mac.Same(sum, d[:])
		mac.Check(key, text, sum)
		mac.Check(key, text, text)
		mac.Key(key, "name")
		if !bytes.Equal(wholeKey, row(k+200, 16)) || !bytes.Equal(wholeText, row(350, 17)) || !bytes.Equal(wholeSum, kept) {
			t.Errorf("a key of %d bytes: what was handed in was changed", k)
		}
	}
}

// P3.1, P3.2: the key, the text and the sum may be one piece of memory.
func TestOneMemoryForAll(t *testing.T) {
	for _, n := range []int{0, 32, 64, 65, 200} {
		b := row(n, 19)
		if got, want := mac.Sum(b, b), libSum(row(n, 19), row(n, 19)); got != want {
			t.Errorf("Sum of %d bytes by themselves: %x, not %x", n, got, want)
		}
		if mac.Check(b, b, b) {
			t.Errorf("%d bytes are their own sum", n)
		}
	}
}

// P3.2 (R3, R4): what Key answers is nobody else's, and no call hangs on those ahead.
func TestAnswersAreNewMemory(t *testing.T) {
	for _, k := range []int{0, 32, 64, 65} {
		key := row(k, 20)
		want := libSum(key, []byte("name"))
		first, second := mac.Key(key, "name"), mac.Key(key, "name")
		for i := range first {
			first[i] = 0
		}
		// Room behind an answer is its own, too.
		_ = append(first, row(64, 21)...)
		third := mac.Key(key, "name")
		if !bytes.Equal(second, want[:]) || !bytes.Equal(third, want[:]) || mac.Sum(key, []byte("name")) != want {
			t.Errorf("a key of %d bytes: what Key answered once is changed through another answer", k)
		}
		if !bytes.Equal(key, row(k, 20)) {
			t.Errorf("a key of %d bytes was changed through what Key answered", k)
		}
		for i := range key {
			key[i]++
		}
		if !bytes.Equal(second, want[:]) {
			t.Errorf("a key of %d bytes: what Key answered hangs on it still", k)
		}
	}
}
