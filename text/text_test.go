package text_test

import (
	"bytes"
	"encoding/hex"
	"math"
	"math/big"
	"slices"
	"strings"
	"testing"

	"inquest/text"
)

// row answers n bytes of all values, another row for each seed.
func row(n, seed int) []byte {
	b := make([]byte, n)
	for i := range b {
		b[i] = byte(37*seed + i*i + i>>3)
	}
	return b
}

// everyByte answers the bytes 0 to 255.
func everyByte() []byte {
	b := make([]byte, 256)
	for i := range b {
		b[i] = byte(i)
	}
	return b
}

// oneByte answers the text of one byte, which string(c) is not above 127.
func oneByte(c byte) string { return string([]byte{c}) }

// changedAt answers a text with another byte at one place.
func changedAt(s string, at int, c byte) string {
	return s[:at] + oneByte(c) + s[at+1:]
}

// P4.1
func TestHexOfExamples(t *testing.T) {
	for _, c := range []struct {
		b    []byte
		want string
	}{
		{nil, ""},
		{[]byte{}, ""},
		{[]byte{0, 255}, "00ff"},
		{[]byte{0}, "00"},
		{[]byte{1}, "01"},
		{[]byte{16}, "10"},
		{[]byte{9, 10, 0x90, 0xa0}, "090a90a0"},
		{[]byte{0x01, 0x23, 0x45, 0x67, 0x89, 0xab, 0xcd, 0xef}, "0123456789abcdef"},
		{[]byte{0, 0, 1}, "000001"},
	} {
		if got := text.Hex(c.b); got != c.want {
			t.Errorf("Hex(%v): %q, not %q", c.b, got, c.want)
		}
		if got, ok := text.Unhex(c.want); !bytes.Equal(got, c.b) || !ok {
			t.Errorf("Unhex(%q): %v, %v", c.want, got, ok)
		}
	}
}

// P4.1, P4.5: each byte, alone and amid others.
func TestHexOfEachByte(t *testing.T) {
	seen := map[string]int{}
	for c := range 256 {
		for _, b := range [][]byte{{byte(c)}, {0x12, byte(c), 0xf0}} {
			want := hex.EncodeToString(b)
			got := text.Hex(b)
			if got != want {
				t.Errorf("Hex(%v): %q, not %q", b, got, want)
			}
			seen[got]++
			if back, ok := text.Unhex(got); !bytes.Equal(back, b) || !ok {
				t.Errorf("Unhex(%q): %v, %v", got, back, ok)
			}
		}
	}
	if len(seen) != 512 {
		t.Errorf("%d texts of 512 lists of bytes", len(seen))
	}
}

// P4.1, P4.5
func TestHexOfManyBytes(t *testing.T) {
	for _, n := range []int{2, 3, 15, 16, 17, 31, 32, 33, 64, 255, 256, 257, 1000, 70000} {
		b := row(n, n)
		got := text.Hex(b)
		if want := hex.EncodeToString(b); got != want {
			t.Errorf("Hex of %d bytes is not theirs", n)
		}
		if back, ok := text.Unhex(got); !bytes.Equal(back, b) || !ok {
			t.Errorf("Unhex of Hex of %d bytes: not these, %v", n, ok)
		}
	}
}

// noUnhex asks that a text is no bytes.
func noUnhex(t *testing.T, s string) {
	t.Helper()
	if b, ok := text.Unhex(s); len(b) != 0 || ok {
		t.Errorf("Unhex(%q): %v, %v", s, b, ok)
	}
}

// P4.1
func TestUnhexOfWrongTexts(t *testing.T) {
	for _, s := range []string{
		"0F", "0", "F0", "FF", "aB", "Ab", "ABCDEF",
		"f", "000", "00f", "f00", "0g", "g0", "zz",
		" 00", "00 ", "0 0", " 0", "0 ", "  ",
		"0x", "x0", "0x00", "-1", "+1", "00\n", "0\n", "\n0",
		"\x000", "0\x00", "\xff\xff", "\x00\xff", "é", "0é", "é0", "٠0",
	} {
		noUnhex(t, s)
	}
}

// P4.1: an odd number of letters, however many.
func TestUnhexOfOddLengths(t *testing.T) {
	s := strings.Repeat("0a1b", 100)
	for n := range len(s) {
		b, ok := text.Unhex(s[:n])
		if ok != (n%2 == 0) || len(b) != (n/2)*(1-n%2) {
			t.Errorf("Unhex of %d letters: %d bytes, %v", n, len(b), ok)
		}
	}
}

// P4.1: each byte at each place: those that are letters, and the others.
func TestUnhexOfEachLetterAtEachPlace(t *testing.T) {
	const whole = "00a1b2c3d4e5f69f"
	for at := range len(whole) {
		for _, c := range everyByte() {
			s := changedAt(whole, at, c)
			if !strings.Contains("0123456789abcdef", oneByte(c)) {
				noUnhex(t, s)
				continue
			}
			want, err := hex.DecodeString(s)
			if got, ok := text.Unhex(s); err != nil || !bytes.Equal(got, want) || !ok {
				t.Errorf("Unhex(%q): %v, %v, not %v", s, got, ok, want)
			}
		}
	}
}

// P4.1, P4.5: of all texts of two bytes, those that are read are those that are written so, one for each byte.
func TestUnhexOfAllPairs(t *testing.T) {
	read := 0
	for _, c := range everyByte() {
		for _, d := range everyByte() {
			s := string([]byte{c, d})
			b, ok := text.Unhex(s)
			if !ok {
				continue
			}
			read++
			if text.Hex(b) != s {
				t.Errorf("%q is read as %v, which is written %q", s, b, text.Hex(b))
			}
		}
	}
	if read != 256 {
		t.Errorf("%d texts of two bytes are read", read)
	}
}

// tens answers the powers of ten that an int can be.
func tens() []int {
	var l []int
	for n := 1; ; n *= 10 {
		l = append(l, n)
		if n > math.MaxInt/10 {
			return l
		}
	}
}

// numbers answers the edges of Dec: powers of ten and of two, with their neighbours, above and below 0.
func numbers() []int {
	l := []int{math.MaxInt, math.MaxInt - 1, math.MinInt, math.MinInt + 1}
	for n := range 1100 {
		l = append(l, n, -n)
	}
	edges := tens()
	for i := range 63 {
		edges = append(edges, 1<<i)
	}
	for _, n := range edges {
		for d := -2; d <= 2; d++ {
			l = append(l, n+d, -n+d)
		}
	}
	return l
}

// P4.2
func TestDecOfExamples(t *testing.T) {
	for _, c := range []struct {
		n    int
		want string
	}{
		{0, "0"}, {1, "1"}, {9, "9"}, {10, "10"}, {11, "11"}, {99, "99"}, {100, "100"}, {101, "101"},
		{1234567890, "1234567890"}, {-1, "-1"}, {-9, "-9"}, {-10, "-10"}, {-12, "-12"}, {-99, "-99"}, {-100, "-100"},
		{math.MaxInt, "9223372036854775807"}, {math.MinInt, "-9223372036854775808"},
	} {
		if got := text.Dec(c.n); got != c.want {
			t.Errorf("Dec(%d): %q, not %q", c.n, got, c.want)
		}
	}
}

// P4.2, P4.5: what is written of numbers that are not below 0 is read; of the others it is not.
func TestDecAndReadDecOfNumbers(t *testing.T) {
	for _, n := range numbers() {
		s := text.Dec(n)
		if want := big.NewInt(int64(n)).String(); s != want {
			t.Errorf("Dec(%d): %q, not %q", n, s, want)
		}
		want := max(n, 0)
		if got, ok := text.ReadDec(s); got != want || ok != (n >= 0) {
			t.Errorf("ReadDec(%q): %d, %v", s, got, ok)
		}
	}
}

// noDec asks that a text is no number.
func noDec(t *testing.T, s string) {
	t.Helper()
	if n, ok := text.ReadDec(s); n != 0 || ok {
		t.Errorf("ReadDec(%q): %d, %v", s, n, ok)
	}
}

// P4.2
func TestReadDecOfExamples(t *testing.T) {
	for s, want := range map[string]int{
		"0": 0, "1": 1, "9": 9, "10": 10, "12": 12, "99": 99, "100": 100, "1000000000": 1000000000,
		"4294967296": 1 << 32, "9223372036854775799": math.MaxInt - 8, "9223372036854775807": math.MaxInt,
	} {
		if got, ok := text.ReadDec(s); got != want || !ok {
			t.Errorf("ReadDec(%q): %d, %v", s, got, ok)
		}
	}
	for _, s := range []string{
		"", "-1", "+1", "01", "012", "-0", "+0", "00", "000", "-", "+", "--1", "++1", "-+1", "-01",
		"1-", "1+", " 1", "1 ", "1 2", "\n1", "1\n", "1\x00", "\x001", "1.0", "1.", ".1", "1,000", "1_000", "1_0", "_1", "1_",
		"0x1", "0b1", "0o7", "1e3", "a", "1a", "a1", "ff", "NaN", "Inf", "é", "1é", "٣", "1٣", "\xff", "0 ",
	} {
		noDec(t, s)
	}
}

// P4.2: a sign or noughts ahead of numbers of all lengths.
func TestReadDecOfSignsAndNoughtsAhead(t *testing.T) {
	for _, n := range numbers() {
		if n < 0 {
			continue
		}
		s := text.Dec(n)
		for _, ahead := range []string{"+", "-", "0", "00", " ", "+0", "-0", strings.Repeat("0", 30)} {
			noDec(t, ahead+s)
		}
	}
}

// P4.2: each byte at each place, in numbers of all lengths.
func TestReadDecOfEachSignAtEachPlace(t *testing.T) {
	for _, whole := range []string{"7", "12", "305", "1234567890", "1000000000000000000"} {
		for at := range len(whole) {
			for _, c := range everyByte() {
				s := changedAt(whole, at, c)
				if c < '0' || c > '9' || c == '0' && at == 0 && len(s) > 1 {
					noDec(t, s)
					continue
				}
				want, _ := new(big.Int).SetString(s, 10)
				if got, ok := text.ReadDec(s); int64(got) != want.Int64() || !ok {
					t.Errorf("ReadDec(%q): %d, %v", s, got, ok)
				}
			}
		}
	}
}

// P4.2: numbers around 2^63, 2^64 and other places at which an int would wrap round.
func TestReadDecOfGreatNumbers(t *testing.T) {
	one := big.NewInt(1)
	greatest := big.NewInt(math.MaxInt)
	for bits := uint(60); bits <= 200; bits++ {
		for d := int64(-30); d <= 30; d++ {
			n := new(big.Int).Lsh(one, bits)
			n.Add(n, big.NewInt(d))
			if n.Cmp(greatest) > 0 {
				noDec(t, n.String())
				continue
			}
			if got, ok := text.ReadDec(n.String()); int64(got) != n.Int64() || !ok {
				t.Errorf("ReadDec(%v): %d, %v", n, got, ok)
			}
		}
	}
	for _, s := range []string{
		"9223372036854775808", "9223372036854775809", "9223372036854775810", "9223372036854775900",
		"9999999999999999999", "10000000000000000000", "18446744073709551615", "18446744073709551616", "18446744073709551617",
	} {
		noDec(t, s)
	}
}

// P4.2: many digits.
func TestReadDecOfManyDigits(t *testing.T) {
	for n := 1; n <= 100; n++ {
		for _, c := range "123456789" {
			s := strings.Repeat(string(c), n)
			want, _ := new(big.Int).SetString(s, 10)
			if !want.IsInt64() {
				noDec(t, s)
				continue
			}
			if got, ok := text.ReadDec(s); int64(got) != want.Int64() || !ok {
				t.Errorf("ReadDec(%q): %d, %v", s, got, ok)
			}
		}
		if n > 1 {
			noDec(t, strings.Repeat("0", n))
		}
	}
	noDec(t, "1"+strings.Repeat("0", 100000))
	noDec(t, strings.Repeat("0", 100000)+"1")
	noDec(t, strings.Repeat("9", 100000))
}

// noFields asks that a text has more pieces than most.
func noFields(t *testing.T, s string, by byte, most int) {
	t.Helper()
	if l, ok := text.Fields(s, by, most); len(l) != 0 || ok {
		t.Errorf("Fields(%q, %q, %d): %q, %v", s, by, most, l, ok)
	}
}

// askFields asks for the pieces of a text with most at and around their number.
func askFields(t *testing.T, s string, by byte, want []string) {
	t.Helper()
	n := len(want)
	for _, most := range []int{n, n + 1, n + 2, 1000 * n, math.MaxInt32, math.MaxInt} {
		if got, ok := text.Fields(s, by, most); !slices.Equal(got, want) || !ok {
			t.Errorf("Fields(%q, %q, %d): %q, %v, not %q", s, by, most, got, ok, want)
		}
	}
	for most := range n {
		noFields(t, s, by, most)
	}
	for _, most := range []int{-1, -2, -n, math.MinInt32, math.MinInt + 1, math.MinInt} {
		noFields(t, s, by, most)
	}
}

// P4.3
func TestFieldsOfExamples(t *testing.T) {
	for _, c := range []struct {
		s    string
		by   byte
		want []string
	}{
		{"a..b", '.', []string{"a", "", "b"}},
		{"", '.', []string{""}},
		{"", 0, []string{""}},
		{"", 255, []string{""}},
		{"a", '.', []string{"a"}},
		{"abc", '.', []string{"abc"}},
		{".", '.', []string{"", ""}},
		{"..", '.', []string{"", "", ""}},
		{"...", '.', []string{"", "", "", ""}},
		{".a", '.', []string{"", "a"}},
		{"a.", '.', []string{"a", ""}},
		{".a.", '.', []string{"", "a", ""}},
		{"..a..", '.', []string{"", "", "a", "", ""}},
		{"a.b.c", '.', []string{"a", "b", "c"}},
		{"ab...cd", '.', []string{"ab", "", "", "cd"}},
		{"a,b.c", ',', []string{"a", "b.c"}},
		{"  a b ", ' ', []string{"", "", "a", "b", ""}},
		{" a\tb\n", ' ', []string{"", "a\tb\n"}},
		{"a\nb\n", '\n', []string{"a", "b", ""}},
		{"a\x00b", 0, []string{"a", "b"}},
		{"a\x00b", '.', []string{"a\x00b"}},
		{"aAa", 'a', []string{"", "A", ""}},
		// The bytes of a text are gone through, not its runes: é is 195, 169.
		{"é.é", '.', []string{"é", "é"}},
		{"aéb", 195, []string{"a", "\xa9b"}},
		{"aéb", 169, []string{"a\xc3", "b"}},
		{"aéb", 233, []string{"aéb"}},
		{"a\xffb\xff", 255, []string{"a", "b", ""}},
		{"a\xffb", '.', []string{"a\xffb"}},
	} {
		askFields(t, c.s, c.by, c.want)
	}
}

// P4.3: each byte by which a text may be cut.
func TestFieldsByEachByte(t *testing.T) {
	whole := string(everyByte())
	for _, by := range everyByte() {
		at := int(by)
		askFields(t, whole, by, []string{whole[:at], whole[at+1:]})
		askFields(t, oneByte(by), by, []string{"", ""})
		askFields(t, oneByte(by)+oneByte(by), by, []string{"", "", ""})
		askFields(t, oneByte(by), by+1, []string{oneByte(by)})
		askFields(t, strings.ReplaceAll(whole, oneByte(by), ""), by, []string{strings.ReplaceAll(whole, oneByte(by), "")})
	}
}

// P4.3: many pieces, and long ones.
func TestFieldsOfManyPieces(t *testing.T) {
	for _, n := range []int{1, 2, 3, 16, 17, 300} {
		var want []string
		for i := range n {
			want = append(want, strings.Repeat("x", i*7%41))
		}
		askFields(t, strings.Join(want, ","), ',', want)
	}
	long := strings.Repeat("y", 100000)
	askFields(t, long, ',', []string{long})
	askFields(t, long+","+long, ',', []string{long, long})
	noFields(t, strings.Repeat(",", 100000), ',', 100000)
	if l, ok := text.Fields(strings.Repeat(",", 100000), ',', 100001); len(l) != 100001 || !ok {
		t.Errorf("100000 commas: %d pieces, %v", len(l), ok)
	}
}

// textsOf answers all texts of up to n letters out of those given.
func textsOf(letters string, n int) []string {
	all, last := []string{""}, []string{""}
	for range n {
		var next []string
		for _, s := range last {
			for i := range len(letters) {
				next = append(next, s+letters[i:i+1])
			}
		}
		all, last = append(all, next...), next
	}
	return all
}

// P4.3, P4.5: pieces joined by the byte are the text, none of them has the byte, and there is one more than there are bytes.
func TestFieldsJoined(t *testing.T) {
	for _, s := range textsOf("a.\xff", 7) {
		for _, by := range []byte{'.', 'a', 255, 'b'} {
			n := 1 + strings.Count(s, oneByte(by))
			l, ok := text.Fields(s, by, n)
			if !ok || len(l) != n || strings.Join(l, oneByte(by)) != s {
				t.Errorf("Fields(%q, %q, %d): %q, %v", s, by, n, l, ok)
			}
			for _, piece := range l {
				if strings.IndexByte(piece, by) >= 0 {
					t.Errorf("Fields(%q, %q, %d): %q, %v", s, by, n, l, ok)
				}
			}
			noFields(t, s, by, n-1)
		}
	}
}

// askLine asks for a text's first line and what is behind it.
func askLine(t *testing.T, s, line, rest string, found bool) {
	t.Helper()
	if a, b, ok := text.Line(s); a != line || b != rest || ok != found {
		t.Errorf("Line(%q): %q, %q, %v, not %q, %q, %v", s, a, b, ok, line, rest, found)
	}
}

// P4.3
func TestLineOfExamples(t *testing.T) {
	askLine(t, "a", "a", "", false)
	askLine(t, "", "", "", false)
	askLine(t, "\n", "", "", true)
	askLine(t, "\n\n", "", "\n", true)
	askLine(t, "a\n", "a", "", true)
	askLine(t, "a\n\n", "a", "\n", true)
	askLine(t, "\na", "", "a", true)
	askLine(t, "\na\nb", "", "a\nb", true)
	askLine(t, "a\nb", "a", "b", true)
	askLine(t, "ab\ncd\nef\n", "ab", "cd\nef\n", true)
	askLine(t, "abc def", "abc def", "", false)
	// Nothing but the byte 10 ends a line, and nothing but it is left out.
	askLine(t, "a\r\nb", "a\r", "b", true)
	askLine(t, "a\rb", "a\rb", "", false)
	askLine(t, " a \n b ", " a ", " b ", true)
	askLine(t, "a\x00b\x0b\x0c\u0085\u2028", "a\x00b\x0b\x0c\u0085\u2028", "", false)
	askLine(t, "\xff\n\xfe", "\xff", "\xfe", true)
	long := strings.Repeat("z", 100000)
	askLine(t, long, long, "", false)
	askLine(t, long+"\n"+long, long, long, true)
}

// P4.3: a line ends at the byte 10 and at no other one.
func TestLineByEachByte(t *testing.T) {
	for _, c := range everyByte() {
		s := "a" + oneByte(c) + "b"
		if c == 10 {
			askLine(t, s, "a", "b", true)
			continue
		}
		askLine(t, s, s, "", false)
		askLine(t, s+"\n"+s, s, s, true)
	}
}

// P4.3, P4.5: a line, the byte 10 and what is behind it are the text; a line has no byte 10.
func TestLineJoined(t *testing.T) {
	for _, s := range textsOf("a\n\r", 7) {
		line, rest, ok := text.Line(s)
		joined := line + rest
		if ok {
			joined = line + "\n" + rest
		}
		if joined != s || strings.Contains(line, "\n") || ok != strings.Contains(s, "\n") {
			t.Errorf("Line(%q): %q, %q, %v", s, line, rest, ok)
		}
	}
}

// P4.4
func TestNameOfExamples(t *testing.T) {
	for _, s := range []string{
		"a", "z", "a-1", "a1", "a-", "a--", "z9", "abc", "az", "zaz09-", "a0000000000000-9",
		"abcdefghijklmnop", "qrstuvwxyz-01234", "a---------------", "a123456789012345",
	} {
		if !text.Name(s) {
			t.Errorf("Name(%q): false", s)
		}
	}
	for _, s := range []string{
		"", "1a", "A", "-", "-a", "0", "9", "--", "Z", "aA", "Aa", "a_", "_a", "a.b", "a/b", "a b", " a", "a ", "a\n", "\na",
		"a\x00", "\x00", "\x00a", "é", "aé", "\xff", "a\xff", "a+1", "a:", "a{", "a`", "a@", "a[", "{", "`",
		"abcdefghijklmnopq", "a----------------", "1bcdefghijklmnop", "-bcdefghijklmnop", "abcdefghijklmnoP", "éééééééé", strings.Repeat("a", 1000),
	} {
		if text.Name(s) {
			t.Errorf("Name(%q): true", s)
		}
	}
}

// P4.4: names have 1 to 16 bytes.
func TestNameOfEachLength(t *testing.T) {
	for _, c := range []string{"a", "z", "0", "9", "-"} {
		for n := range 300 {
			s := "m" + strings.Repeat(c, n)
			if got := text.Name(s); got != (n < 16) {
				t.Errorf("Name(%q) of %d bytes: %v", s, n+1, got)
			}
		}
	}
	if text.Name("") {
		t.Error("nothing is a name")
	}
}

// P4.4: each byte at each place of names of all lengths.
func TestNameOfEachByteAtEachPlace(t *testing.T) {
	const first = "abcdefghijklmnopqrstuvwxyz"
	const later = first + "0123456789-"
	for n := 1; n <= 16; n++ {
		whole := "abcdefghijklmnop"[:n]
		for at := range n {
			allowed := later
			if at == 0 {
				allowed = first
			}
			for _, c := range everyByte() {
				s := changedAt(whole, at, c)
				if got, want := text.Name(s), strings.IndexByte(allowed, c) >= 0; got != want {
					t.Errorf("Name(%q): %v", s, got)
				}
			}
		}
	}
}

// P4.1 (R3): neither the bytes that are handed in nor the memory behind them are changed, nor are they kept.
func TestWhatIsHandedInStays(t *testing.T) {
	for _, n := range []int{0, 1, 2, 32, 100} {
		whole := row(n+100, n)
		got := text.Hex(whole[:n])
		if !bytes.Equal(whole, row(n+100, n)) {
			t.Errorf("Hex of %d bytes changed them", n)
		}
		for i := range whole {
			whole[i]++
		}
		if got != hex.EncodeToString(row(n+100, n)[:n]) {
			t.Errorf("Hex of %d bytes hangs on them still", n)
		}
	}
}

// P4.1 (R3, R4): the bytes that Unhex answers are nobody else's.
func TestBytesAreNewMemory(t *testing.T) {
	for _, s := range []string{"", "00", "00ff", strings.Repeat("a5", 64)} {
		kept := strings.Clone(s)
		first, _ := text.Unhex(s)
		second, _ := text.Unhex(s)
		for i := range first {
			first[i]++
		}
		// Room behind an answer is its own, too.
		_ = append(first, row(64, 1)...)
		third, ok := text.Unhex(s)
		if !ok || s != kept || text.Hex(second) != kept || text.Hex(third) != kept {
			t.Errorf("Unhex(%q): what it answered once is changed through another answer", kept)
		}
	}
}

// P4.3 (R3, R4): the lists that Fields answers are nobody else's.
func TestPiecesAreNewMemory(t *testing.T) {
	for _, s := range []string{"", "a", "a..b", "a.b.c.d.e"} {
		kept := strings.Clone(s)
		first, _ := text.Fields(s, '.', 9)
		second, _ := text.Fields(s, '.', 9)
		for i := range first {
			first[i] = "changed"
		}
		_ = append(first, "more", "more", "more", "more")
		third, ok := text.Fields(s, '.', 9)
		if !ok || s != kept || strings.Join(second, ".") != kept || strings.Join(third, ".") != kept {
			t.Errorf("Fields(%q): what it answered once is changed through another answer", kept)
		}
	}
}
