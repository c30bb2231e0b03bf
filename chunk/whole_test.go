package chunk_test

import (
	"bytes"
	"math"
	"strings"
	"testing"

	"inquest/api"
	"inquest/chunk"
)

// The chapter's examples.
func TestExamples(t *testing.T) {
	b, e := chunk.Print([]byte("abc"), 2)
	if want := []byte{'2', 13, 10, 'a', 'b', 13, 10, '1', 13, 10, 'c', 13, 10, '0', 13, 10, 13, 10}; !bytes.Equal(b, want) || e != api.OK {
		t.Errorf("Print(abc, 2): %q, error %d", b, e)
	}
	for most := 2; most <= longBody; most++ {
		judged(t, "02", most, refused(api.ErrForm))
		judged(t, "g", most, refused(api.ErrForm))
	}
	judged(t, "801", longBody, refused(api.ErrBig))
}

// P12.2: a most that can't be, whatever the bytes.
func TestWholeArg(t *testing.T) {
	for _, most := range []int{-1, longBody + 1, math.MinInt, math.MaxInt, -longBody, 1 << 32} {
		for _, s := range []string{"", "g", "02", "0", ending, chunks("x"), chunks("x") + "y", "801", "ffff", strings.Repeat("1", 5000)} {
			judged(t, s, most, refused(api.ErrArg))
		}
		if said, n, e := chunk.Whole(nil, most); len(said) != 0 || n != 0 || e != api.ErrArg {
			t.Errorf("Whole(nil, %d): %q, %d, error %d", most, said, n, e)
		}
	}
}

// P12.2: bodies of every kind, written out, with and without bytes behind them.
func TestWholeWrittenOut(t *testing.T) {
	for _, c := range []struct {
		s, said string
		most    int
	}{
		{"0\r\n\r\n", "", 0},
		{"1\r\nx\r\n0\r\n\r\n", "x", 1},
		{"2\r\n\r\n\r\n0\r\n\r\n", "\r\n", 2},
		{"5\r\n0\r\n\r\n\r\n0\r\n\r\n", "0\r\n\r\n", 5},
		{"2\r\nab\r\n1\r\nc\r\n0\r\n\r\n", "abc", 3},
		{"1\r\n\x00\r\n1\r\n\xff\r\n1\r\n0\r\n0\r\n\r\n", "\x00\xff0", 3},
		{"a\r\n0123456789\r\n0\r\n\r\n", "0123456789", 10},
		{"f\r\n" + row(15, 1) + "\r\n0\r\n\r\n", row(15, 1), 15},
		{"10\r\n" + row(16, 1) + "\r\n0\r\n\r\n", row(16, 1), 16},
		{"b2\r\n" + row(178, 1) + "\r\n0\r\n\r\n", row(178, 1), 178},
		{"c0\r\n" + row(192, 1) + "\r\n1e\r\n" + row(30, 2) + "\r\n0\r\n\r\n", row(192, 1) + row(30, 2), 222},
		{"100\r\n" + row(256, 1) + "\r\n0\r\n\r\n", row(256, 1), 256},
		{"7ff\r\n" + row(2047, 1) + "\r\n1\r\nd\r\n0\r\n\r\n", row(2047, 1) + "d", longBody},
		{"800\r\n" + row(2048, 1) + "\r\n0\r\n\r\n", row(2048, 1), longBody},
	} {
		asked := told{c.said, len(c.s), api.OK}
		for _, behind := range []string{"", "0", "\n", "\r", "x", "\x00", c.s, "1\r\nx\r\n0\r\n\r\n", row(5000, 3)} {
			judged(t, c.s+behind, c.most, asked)
			judged(t, c.s+behind, longBody, asked)
			if c.most > 0 {
				judged(t, c.s+behind, c.most-1, refused(api.ErrBig))
				judged(t, c.s+behind, 0, refused(api.ErrBig))
			}
		}
	}
}

// P12.2: each beginning of a body is too short, but where it says too much.
func TestWholeBeginnings(t *testing.T) {
	if said, n, e := chunk.Whole(nil, 0); len(said) != 0 || n != 0 || e != api.ErrShort {
		t.Errorf("Whole(nil, 0): %q, %d, error %d", said, n, e)
	}
	for _, s := range append(bodies(), chunks(row(longBody, 1)), chunks(row(1, 1), row(longBody-1, 1))) {
		said := wholly(s, longBody).said
		for n := range len(s) {
			asked := refused(api.ErrShort)
			if got := read(t, s[:n], len(said)); got != asked {
				t.Fatalf("the first %d bytes of %.100q: %v", n, s, got)
			}
		}
		for n := range min(len(s), 300) {
			judged(t, s[:n], len(said), refused(api.ErrShort))
			if said != "" {
				judged(t, s[:n], len(said)-1, wholly(s[:n], len(said)-1))
			}
		}
		judged(t, s, len(said), told{said, len(s), api.OK})
	}
}

// P12.2: one byte changed at each place, one taken out, one more.
func TestWholeSpoilt(t *testing.T) {
	ends := map[api.Errno]int{}
	for _, s := range bodies() {
		said := len(wholly(s, longBody).said)
		for _, at := range places(s) {
			for b := range 256 {
				x := string([]byte{byte(b)})
				for _, spoilt := range []string{s[:at] + x + s[at+1:], s[:at] + x + s[at:]} {
					most := said + b%2*40 // as much as it says, and more
					asked := wholly(spoilt, most)
					if got := read(t, spoilt, most); got != asked {
						t.Fatalf("Whole(%.100q, %d): %v, not %v", spoilt, most, got, asked)
					}
					ends[asked.e]++
				}
			}
			without := s[:at] + s[at+1:]
			judged(t, without, said, wholly(without, said))
		}
	}
	for _, e := range []api.Errno{api.OK, api.ErrForm, api.ErrBig, api.ErrShort} {
		if ends[e] < 100 {
			t.Errorf("error %d: %d times", e, ends[e])
		}
	}
}

// P12.2: the error of the first byte that has one, where several have.
func TestWholeFirstError(t *testing.T) {
	for _, c := range []struct {
		s    string
		most int
		e    api.Errno
	}{
		{"3g", 2, api.ErrBig},
		{"g3", 2, api.ErrForm},
		{"2g3", 2, api.ErrForm},
		{"2\r\nabc3", 2, api.ErrForm},
		{"2\r\nab\r\n1g", 2, api.ErrBig},
		{"2\r\nab\rg1", 2, api.ErrForm},
		{"12\r\nab", 2, api.ErrBig},
		{"09", 2, api.ErrForm},
		{"\r\n0\r\n\r\n", 2, api.ErrForm},
		{"\n", 2, api.ErrForm},
		{"0\n", 2, api.ErrForm},
		{"0\r\r", 2, api.ErrForm},
		{"0\r\n\n", 2, api.ErrForm},
		{"0\r\n\rx", 2, api.ErrForm},
		{"0\r\nx: y\r\n\r\n", 2, api.ErrForm},
		{"1;x\r\na\r\n0\r\n\r\n", 2, api.ErrForm},
		{"1 \r\na\r\n0\r\n\r\n", 2, api.ErrForm},
		{" 1\r\na\r\n0\r\n\r\n", 2, api.ErrForm},
		{"0x1\r\na\r\n0\r\n\r\n", 2, api.ErrForm},
		{"+1\r\na\r\n0\r\n\r\n", 2, api.ErrForm},
		{"1\na\n0\n\n", 2, api.ErrForm},
		{"1\r\na0\r\n\r\n", 2, api.ErrForm},
		{"2\r\na\r\n0\r\n\r\n", 2, api.ErrForm},
		{"A\r\n0123456789\r\n0\r\n\r\n", 20, api.ErrForm},
		{"1A\r\n", 40, api.ErrForm},
		{"1\r\na\r\n\r\n", 2, api.ErrForm},
		{"00\r\n\r\n", 2, api.ErrForm},
		{"01\r\na\r\n0\r\n\r\n", 2, api.ErrForm},
		{"1\r\na\r\n00\r\n\r\n", 2, api.ErrForm},
		{"1\r\na\r\n01\r\nb\r\n0\r\n\r\n", 2, api.ErrForm},
		{strings.Repeat("f", 40), longBody, api.ErrBig},
		{"1" + strings.Repeat("0", 40), longBody, api.ErrBig},
		{"1" + strings.Repeat("0", 16) + "1\r\na\r\n0\r\n\r\n", longBody, api.ErrBig},
	} {
		judged(t, c.s, c.most, refused(c.e))
	}
}

// P12.2: most 0, 2048 and all between: bodies that say as much as they may, and one byte more, in several ways.
func TestWholeAsMuchAsMay(t *testing.T) {
	for most := range longBody + 1 {
		said := row(most, most)
		for _, parts := range [][]string{{said}, {said[:most/2], said[most/2:]}, {said[:most/3], said[most/3 : most/2], said[most/2:]}} {
			var l []string
			for _, p := range parts {
				if p != "" {
					l = append(l, p)
				}
			}
			s := chunks(l...)
			if got := read(t, s+"0", most); got != (told{said, len(s), api.OK}) {
				t.Fatalf("most %d: %d bytes, %d, error %d", most, len(got.said), got.n, got.e)
			}
			for _, more := range []string{chunks(append(l, "x")...), chunks(append([]string{"x"}, l...)...)} {
				if got := read(t, more, most); got != refused(api.ErrBig) {
					t.Fatalf("most %d, a byte more: %d bytes, %d, error %d", most, len(got.said), got.n, got.e)
				}
			}
		}
	}
}

// printed answers what Print has to answer, as the chapter says it.
func printed(s string, size int) (string, api.Errno) {
	if size < 1 || size > longBody {
		return "", api.ErrArg
	}
	if len(s) > longBody {
		return "", api.ErrBig
	}
	var l []string
	for ; len(s) > size; s = s[size:] {
		l = append(l, s[:size])
	}
	if s != "" {
		l = append(l, s)
	}
	return chunks(l...), api.OK
}

// prints does Print, and holds it against the chapter's words.
func prints(t *testing.T, s string, size int) string {
	t.Helper()
	asked, want := printed(s, size)
	b, e := chunk.Print([]byte(s), size)
	if string(b) != asked || e != want {
		t.Fatalf("Print of %d bytes by %d: %.100q, error %d; not %.100q, error %d", len(s), size, b, e, asked, want)
	}
	return string(b)
}

var (
	sizes   = []int{-1, 0, 1, 2, 3, 9, 10, 15, 16, 17, 255, 256, 257, 1023, 1024, 2047, 2048, 2049, 4096, math.MinInt, math.MaxInt, -2048, 1 << 32, 1<<32 + 1}
	lengths = []int{0, 1, 2, 3, 15, 16, 17, 30, 32, 255, 256, 257, 510, 512, 2047, 2048, 2049, 2050, 4096, 100000}
)

// P12.3: bytes and sizes around all bounds.
func TestPrintSizes(t *testing.T) {
	for _, size := range sizes {
		for _, n := range lengths {
			prints(t, row(n, n), size)
		}
		b, e := chunk.Print(nil, size)
		asked, want := printed("", size)
		if string(b) != asked || e != want {
			t.Errorf("Print(nil, %d): %q, error %d", size, b, e)
		}
	}
}

// P12.3: written out: a last chunk that is shorter and one that is not, sizes of one to three digits, and which error comes first.
func TestPrintWrittenOut(t *testing.T) {
	for _, c := range []struct {
		s     string
		size  int
		asked string
		e     api.Errno
	}{
		{"", 1, "0\r\n\r\n", api.OK},
		{"", longBody, "0\r\n\r\n", api.OK},
		{"x", 1, "1\r\nx\r\n0\r\n\r\n", api.OK},
		{"x", longBody, "1\r\nx\r\n0\r\n\r\n", api.OK},
		{"\r\n", 1, "1\r\n\r\r\n1\r\n\n\r\n0\r\n\r\n", api.OK},
		{"abcd", 2, "2\r\nab\r\n2\r\ncd\r\n0\r\n\r\n", api.OK},
		{"abcde", 2, "2\r\nab\r\n2\r\ncd\r\n1\r\ne\r\n0\r\n\r\n", api.OK},
		{"abcde", 4, "4\r\nabcd\r\n1\r\ne\r\n0\r\n\r\n", api.OK},
		{"abcde", 5, "5\r\nabcde\r\n0\r\n\r\n", api.OK},
		{row(16, 1), 15, "f\r\n" + row(16, 1)[:15] + "\r\n1\r\n" + row(16, 1)[15:] + "\r\n0\r\n\r\n", api.OK},
		{row(17, 1), 16, "10\r\n" + row(17, 1)[:16] + "\r\n1\r\n" + row(17, 1)[16:] + "\r\n0\r\n\r\n", api.OK},
		{row(27, 1), 16, "10\r\n" + row(27, 1)[:16] + "\r\nb\r\n" + row(27, 1)[16:] + "\r\n0\r\n\r\n", api.OK},
		{row(0xab, 1), 0xab, "ab\r\n" + row(0xab, 1) + "\r\n0\r\n\r\n", api.OK},
		{row(0x2cd, 1), longBody, "2cd\r\n" + row(0x2cd, 1) + "\r\n0\r\n\r\n", api.OK},
		{row(2048, 1), 2048, "800\r\n" + row(2048, 1) + "\r\n0\r\n\r\n", api.OK},
		{row(2048, 1), 2047, "7ff\r\n" + row(2048, 1)[:2047] + "\r\n1\r\n" + row(2048, 1)[2047:] + "\r\n0\r\n\r\n", api.OK},
		{"x", 0, "", api.ErrArg},
		{"", -1, "", api.ErrArg},
		{"", 2049, "", api.ErrArg},
		{row(2049, 1), 0, "", api.ErrArg},
		{row(2049, 1), 2049, "", api.ErrArg},
		{row(2049, 1), 1, "", api.ErrBig},
		{row(2049, 1), 2048, "", api.ErrBig},
	} {
		b, e := chunk.Print([]byte(c.s), c.size)
		if string(b) != c.asked || e != c.e {
			t.Errorf("Print(%.50q, %d): %.100q, error %d; not %.100q, error %d", c.s, c.size, b, e, c.asked, c.e)
		}
	}
}

// P12.4: what is printed with every size is read, whole and one byte at a time.
func TestPrintedIsRead(t *testing.T) {
	for size := 1; size <= longBody; size++ {
		for _, n := range []int{0, 1, 16, 17, size - 1, size, min(size+1, longBody), longBody} {
			s := row(n, size)
			b := prints(t, s, size)
			for _, most := range []int{n, longBody} {
				for _, behind := range []string{"", "0\r\n\r\n"} {
					if got := read(t, b+behind, most); got != (told{s, len(b), api.OK}) {
						t.Fatalf("%d bytes by %d: %d bytes, %d, error %d", n, size, len(got.said), got.n, got.e)
					}
				}
			}
			r := fed(t, n, b[:len(b)-1])
			put(t, r, b[len(b)-1], true, api.OK)
			says(t, r, s)
		}
	}
}

// P12.4: each beginning of what is printed is too short, and says what its bytes say.
func TestPrintedBeginnings(t *testing.T) {
	for _, size := range []int{1, 2, 3, 10, 15, 16, 17, 255, 256, 2047, longBody} {
		for _, n := range []int{0, 1, 2, 16, 17, 100, 300} {
			s := row(n, size)
			b := prints(t, s, size)
			for k := range len(b) {
				if got := read(t, b[:k], n); got != refused(api.ErrShort) {
					t.Fatalf("the first %d of %d bytes: error %d", k, len(b), got.e)
				}
			}
		}
		s := row(longBody, size)
		b := prints(t, s, size)
		r := made(t, longBody)
		for k := range len(b) {
			if k%7 == 0 || k < 50 || k > len(b)-50 {
				if got := read(t, b[:k], longBody); got != refused(api.ErrShort) {
					t.Fatalf("the first %d of %d bytes: error %d", k, len(b), got.e)
				}
			}
			put(t, r, b[k], k == len(b)-1, api.OK)
			if said := string(r.Body()); !strings.HasPrefix(s, said) {
				t.Fatalf("behind %d bytes: %.100q", k+1, said)
			}
		}
		says(t, r, s)
	}
}

// R3: Whole changes nothing of what it was handed, keeps nothing of it, and its answer is nobody else's.
func TestWholeMemory(t *testing.T) {
	for _, s := range []string{"", "g", "02", "3\r\nab", ending, chunks("ab", "c"), chunks(row(300, 1)) + "behind", chunks(row(longBody, 1))} {
		asked := wholly(s, longBody)
		b, all := roomy(s)
		was := bytes.Clone(all)
		one, n, e := chunk.Whole(b, longBody)
		other, _, _ := chunk.Whole(b, longBody)
		if !bytes.Equal(all, was) {
			t.Errorf("Whole of %.50q changed what it was handed", s)
		}
		if ownTwice(one, other) || ownTwice(all, one) || ownTwice(one, all) {
			t.Errorf("Whole of %.50q shares memory", s)
		}
		clear(all)
		if (told{string(one), n, e}) != asked {
			t.Errorf("Whole of %.50q: %.50q, %d, error %d", s, one, n, e)
		}
		spoil(one)
		judged(t, s, longBody, asked)
	}
}

// R3: so does Print.
func TestPrintMemory(t *testing.T) {
	for _, n := range []int{0, 1, 2, 3, 16, 17, 300, longBody, longBody + 1} {
		for _, size := range []int{0, 1, 2, 16, 17, longBody, longBody + 1} {
			s := row(n, n)
			asked, _ := printed(s, size)
			b, all := roomy(s)
			was := bytes.Clone(all)
			one, _ := chunk.Print(b, size)
			other, _ := chunk.Print(b, size)
			if !bytes.Equal(all, was) {
				t.Errorf("Print of %d bytes by %d changed what it was handed", n, size)
			}
			if ownTwice(one, other) || ownTwice(all, one) || ownTwice(one, all) {
				t.Errorf("Print of %d bytes by %d shares memory", n, size)
			}
			clear(all)
			if string(one) != asked {
				t.Errorf("Print of %d bytes by %d hangs on what it was handed", n, size)
			}
			spoil(one)
			prints(t, s, size)
		}
	}
}
