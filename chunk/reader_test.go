package chunk_test

import (
	"fmt"
	"math"
	"math/rand"
	"strings"
	"testing"

	"inquest/api"
	"inquest/chunk"
)

// P12.1: New of all numbers around its bounds, and of those far off.
func TestNew(t *testing.T) {
	for _, most := range []int{-1, -2, longBody + 1, longBody + 2, 1 << 16, -longBody, math.MinInt, math.MinInt + 1, math.MaxInt, math.MaxInt - 1, 1 << 32, 1<<32 + 1, -1 << 32} {
		if r, e := chunk.New(most); r != nil || e != api.ErrArg {
			t.Errorf("New(%d): %v, error %d", most, r, e)
		}
	}
	for most := range longBody + 1 {
		says(t, made(t, most), "")
	}
}

// P12.1: which bytes go on at each place of a body, written out: all others are ErrForm, but for digits that are too many.
func TestPutAtEachPlace(t *testing.T) {
	const every = "every"
	for _, c := range []struct {
		most        int
		came        string
		goesOn, big string
	}{
		{longBody, "", hexes, ""},
		{0, "", "0", hexes[1:]},
		{1, "", "01", hexes[2:]},
		{9, "", hexes[:10], hexes[10:]},
		{14, "", hexes[:15], "f"},
		{15, "", hexes, ""},
		{longBody, "0", "\r", ""},
		{0, "0", "\r", ""},
		{longBody, "0\r", "\n", ""},
		{longBody, "0\r\n", "\r", ""},
		{longBody, "1", hexes + "\r", ""},
		{1, "1", "\r", hexes},
		{16, "1", "0\r", hexes[1:]},
		{30, "1", hexes[:15] + "\r", "f"},
		{longBody, "f", hexes + "\r", ""},
		{longBody, "7f", hexes + "\r", ""},
		{longBody, "80", "0\r", hexes[1:]},
		{longBody, "81", "\r", hexes},
		{longBody, "800", "\r", hexes},
		{longBody, "7ff", "\r", hexes},
		{longBody, "1\r", "\n", ""},
		{longBody, "10\r", "\n", ""},
		{longBody, "1\r\n", every, ""},
		{longBody, "1\r\n0", "\r", ""},
		{longBody, "2\r\n\r", every, ""},
		{longBody, "2\r\n\r\n", "\r", ""},
		{longBody, "1\r\nx\r", "\n", ""},
		{longBody, "1\r\nx\r\n", hexes, ""},
		{1, "1\r\nx\r\n", "0", hexes[1:]},
		{4, "1\r\nx\r\n", "0123", hexes[4:]},
		{longBody, "1\r\nx\r\n0", "\r", ""},
		{longBody, "1\r\nx\r\n0\r", "\n", ""},
		{longBody, "1\r\nx\r\n0\r\n", "\r", ""},
		{longBody, "1\r\nx\r\n7f", hexes + "\r", ""},
		{longBody - 1, "1\r\nx\r\n7f", hexes[:15] + "\r", "f"},
		{longBody, "1\r\nx\r\n80", "\r", hexes},
		{longBody, "1\r\nx\r\n2\r\n", every, ""},
	} {
		for b := range 256 {
			at := string([]byte{byte(b)})
			asked := api.ErrForm
			if c.goesOn == every || strings.Contains(c.goesOn, at) {
				asked = api.OK
			} else if strings.Contains(c.big, at) {
				asked = api.ErrBig
			}
			r := fed(t, c.most, c.came)
			if done, e := r.Put(byte(b)); done || e != asked {
				t.Errorf("most %d, %q behind %q: %v, error %d, not %d", c.most, at, c.came, done, e, asked)
			}
		}
	}
}

// P12.1: at the last place LF alone goes on, and the body is whole with it.
func TestPutAtLastPlace(t *testing.T) {
	for _, came := range []string{"0\r\n\r", "1\r\nx\r\n0\r\n\r"} {
		for b := range 256 {
			asked := api.ErrForm
			if b == '\n' {
				asked = api.OK
			}
			put(t, fed(t, longBody, came), byte(b), b == '\n', asked)
		}
	}
}

// bodies answers bodies in chunks: of none, one and several, with sizes of one to three digits.
func bodies() []string {
	all := []string{
		chunks(), chunks("x"), chunks("ab", "c"), chunks("\r", "\n", "\r\n"), chunks("0\r\n\r\n"), chunks("0", "00", "1\r\nx\r\n"),
		chunks(row(15, 1), row(16, 2)), chunks(row(17, 1), "x", row(18, 2)), chunks(row(2, 1), row(255, 2)), chunks(row(256, 3), row(257, 4), row(3, 5)),
		chunks(row(0x1ab, 1)), chunks(row(0x2cd, 2)), chunks(row(0x3ef, 3)),
	}
	for n := 1; n < 16; n++ {
		all = append(all, chunks(row(n, n)), chunks(row(16*n+(n+5)%16, n)))
	}
	return all
}

// walked gives bytes to a reader and to the model, and holds each answer and each Body against the model's.
func walked(t *testing.T, most int, s string) {
	t.Helper()
	r, m := made(t, most), &model{most: most}
	for i := range len(s) {
		whole, asked := m.put(s[i])
		if done, e := r.Put(s[i]); done != whole || e != asked {
			t.Fatalf("most %d, byte %d of %.200q: %v, error %d; not %v, error %d", most, i, s, done, e, whole, asked)
		}
		says(t, r, m.body())
	}
}

// P12.1: through bodies byte by byte: whole with the last one alone; what was said, behind each byte.
func TestPutThroughBodies(t *testing.T) {
	for _, s := range bodies() {
		r := made(t, longBody)
		for i := range len(s) {
			put(t, r, s[i], i == len(s)-1, api.OK)
		}
		walked(t, longBody, s+"0x"+s)
		said := wholly(s, longBody).said
		says(t, r, said)
		walked(t, len(said), s)
		if said != "" {
			walked(t, len(said)-1, s)
		}
	}
}

// P12.1: Body behind each byte, written out.
func TestBodyBehindEachByte(t *testing.T) {
	r := made(t, 6)
	says(t, r, "")
	for _, c := range []struct {
		put  byte
		said string
	}{
		{'2', ""}, {'\r', ""}, {'\n', ""}, {'a', "a"}, {'\n', "a\n"}, {'\r', "a\n"}, {'\n', "a\n"},
		{'1', "a\n"}, {'\r', "a\n"}, {'\n', "a\n"}, {0, "a\n\x00"}, {'\r', "a\n\x00"}, {'\n', "a\n\x00"},
		{'3', "a\n\x00"}, {'\r', "a\n\x00"}, {'\n', "a\n\x00"}, {'\r', "a\n\x00\r"}, {255, "a\n\x00\r\xff"}, {'0', "a\n\x00\r\xff0"}, {'\r', "a\n\x00\r\xff0"}, {'\n', "a\n\x00\r\xff0"},
		{'0', "a\n\x00\r\xff0"}, {'\r', "a\n\x00\r\xff0"}, {'\n', "a\n\x00\r\xff0"}, {'\r', "a\n\x00\r\xff0"},
	} {
		put(t, r, c.put, false, api.OK)
		says(t, r, c.said)
		says(t, r, c.said)
	}
	put(t, r, '\n', true, api.OK)
	says(t, r, "a\n\x00\r\xff0")
	put(t, r, '1', false, api.ErrState)
	says(t, r, "a\n\x00\r\xff0")
}

// P12.1: at each place of each body each of the 256 bytes, and what comes behind it.
func TestPutEachByteAtEachPlace(t *testing.T) {
	for _, s := range bodies() {
		said := wholly(s, longBody).said
		for _, at := range places(s) {
			for b := range 256 {
				r, m := fed(t, len(said), s[:at]), &model{most: len(said), came: s[:at]}
				whole, asked := m.put(byte(b))
				put(t, r, byte(b), whole, asked)
				says(t, r, m.body())
				for _, more := range []byte{'\r', '\n', byte(b)} {
					whole, asked := m.put(more)
					put(t, r, more, whole, asked)
				}
				says(t, r, m.body())
			}
		}
	}
}

// P12.1: behind all that the digits of a size may be, each of the 256 bytes.
func TestPutBehindAllSizes(t *testing.T) {
	times := map[api.Errno]int{}
	for size := range longBody + 1 {
		came := fmt.Sprintf("%x", size)
		for b := range 256 {
			m := &model{most: longBody, came: came}
			whole, asked := m.put(byte(b))
			put(t, fed(t, longBody, came), byte(b), whole, asked)
			times[asked]++
		}
	}
	// CR behind each; digits behind those from 1 to 127, and one behind 128.
	if on := 2049 + 127*16 + 1; times[api.OK] != on || times[api.ErrBig] != 2048*16-127*16-1 || times[api.ErrForm] != 2049*256-2049-2048*16 {
		t.Error(times)
	}
}

// P12.1: ErrBig at just the digit with which it is too much, in the first chunk and behind others.
func TestPutBigAtItsDigit(t *testing.T) {
	for _, most := range []int{0, 1, 2, 15, 16, 17, 255, 256, 257, 2047, longBody} {
		for _, ahead := range [][]int{{}, {1}, {1, 1}, {most - 1}, {most}, {most / 2}, {most / 3, most / 3}, {most - 1, 1}, {16, most - 32}} {
			came, left, can := "", most, true
			for k, n := range ahead {
				came += piece(row(max(n, 0), k))
				left -= n
				can = can && n > 0
			}
			if !can || left < 0 {
				continue
			}
			for _, size := range []int{1, 2, 15, 16, 17, 255, 256, 257, 2047, 2048, 2049, 4095, 4096, 1 << 16, 1<<32 - 1, 1 << 32, 1<<32 + 1, math.MaxInt, left - 1, left, left + 1, left + 16, 16*left + 1} {
				if size > 0 {
					bigAt(t, most, came, left, fmt.Sprintf("%x", size))
				}
			}
			bigAt(t, most, came, left, strings.Repeat("f", 100))
			bigAt(t, most, came, left, "1"+strings.Repeat("0", 100))
			bigAt(t, most, came, left, "8"+strings.Repeat("0", 15))
			bigAt(t, most, came, left, "1"+strings.Repeat("0", 16))
		}
	}
}

// bigAt puts the digits of a size, where so many bytes more may be said, and CR behind them, if they can be.
func bigAt(t *testing.T, most int, came string, left int, digits string) {
	t.Helper()
	r, size := fed(t, most, came), 0
	said := string(r.Body())
	for i := range len(digits) {
		size = 16*size + strings.IndexByte(hexes, digits[i])
		if size > left {
			put(t, r, digits[i], false, api.ErrBig)
			for _, b := range []byte{'\r', '\n', digits[i], '0', 'g'} {
				put(t, r, b, false, api.ErrState)
			}
			says(t, r, said)
			return
		}
		put(t, r, digits[i], false, api.OK)
	}
	put(t, r, '\r', false, api.OK)
	put(t, r, '\n', false, api.OK)
	more := row(size, 7)
	for i := range size {
		put(t, r, more[i], false, api.OK)
	}
	put(t, r, '\r', false, api.OK)
	put(t, r, '\n', false, api.OK)
	says(t, r, said+more)
	if size == left {
		put(t, r, '1', false, api.ErrBig)
	}
}

// P12.1: where a byte is in no body, that comes ahead of that it says too much.
func TestPutFormAheadOfBig(t *testing.T) {
	for most := range 3 {
		for _, b := range []byte("0123456789abcdef") {
			put(t, fed(t, most, "0"), b, false, api.ErrForm)
		}
		for _, b := range []byte("ABCDEFgG \t;-+x") {
			put(t, fed(t, most, ""), b, false, api.ErrForm)
		}
	}
	for _, b := range []byte("9f") {
		put(t, fed(t, 1, "1\r\nx\r\n0"), b, false, api.ErrForm)
		put(t, fed(t, 1, "1\r\nx"), b, false, api.ErrForm)
		put(t, fed(t, 1, "1\r\nx\r"), b, false, api.ErrForm)
		put(t, fed(t, 1, "1\r"), b, false, api.ErrForm)
		put(t, fed(t, 1, "1\r\nx\r\n0\r\n"), b, false, api.ErrForm)
	}
}

// P12.1: behind the end and behind an error every byte is ErrState, however many there are, and none of them is said.
func TestPutState(t *testing.T) {
	for _, c := range []struct {
		came string
		last byte
		said string
		e    api.Errno
	}{
		{"0\r\n\r", '\n', "", api.OK},
		{"2\r\nab\r\n0\r\n\r", '\n', "ab", api.OK},
		{"", 'g', "", api.ErrForm},
		{"", '\r', "", api.ErrForm},
		{"", '5', "", api.ErrBig},
		{"3", '0', "", api.ErrBig},
		{"0", '0', "", api.ErrForm},
		{"2\r\nab", 'c', "ab", api.ErrForm},
		{"2\r\nab\r", '\r', "ab", api.ErrForm},
		{"2\r\nab\r\n", '3', "ab", api.ErrBig},
		{"2\r\nab\r\n1\r\n\n\r\n", 'x', "ab\n", api.ErrForm},
		{"2\r\nab\r\n1\r\n\n\r\n0\r\n\r", 'x', "ab\n", api.ErrForm},
		{"2\r\nab\r\n2\r\n\x00\x00\r\n", '1', "ab\x00\x00", api.ErrBig},
		{"2\r", '2', "", api.ErrForm},
	} {
		r := fed(t, 4, c.came)
		put(t, r, c.last, c.e == api.OK, c.e)
		says(t, r, c.said)
		for range 3 {
			for b := range 256 {
				put(t, r, byte(b), false, api.ErrState)
				says(t, r, c.said)
			}
			for _, b := range []byte(ending + chunks("x") + chunks()) {
				put(t, r, b, false, api.ErrState)
			}
			says(t, r, c.said)
		}
	}
}

// P12.1: all rows of bytes out of a few, as far as they go on, with each of the 256 bytes behind each of them.
func TestPutAllRows(t *testing.T) {
	const few = "012a\r\n"
	tried := 0
	var try func(most int, came string)
	try = func(most int, came string) {
		tried++
		for b := range 256 {
			m := &model{most: most, came: came}
			whole, asked := m.put(byte(b))
			r := fed(t, most, came)
			put(t, r, byte(b), whole, asked)
			says(t, r, m.body())
			if asked == api.OK && !whole && len(came) < 11 && strings.IndexByte(few, byte(b)) >= 0 {
				try(most, m.came)
			}
		}
	}
	for most := range 4 {
		try(most, "")
	}
	if tried < 1000 {
		t.Errorf("%d rows", tried)
	}
}

// P12.1: rows by chance, that go on for long with few wrong bytes among them.
func TestPutByChance(t *testing.T) {
	by := rand.New(rand.NewSource(12))
	ends := map[api.Errno]int{}
	for range 3000 {
		most := by.Intn(80)
		if by.Intn(3) == 0 {
			most = by.Intn(longBody + 1)
		}
		var b []byte
		for range by.Intn(6) {
			b = append(b, piece(row(1+by.Intn(1+by.Intn(40)), by.Int()))...)
		}
		b = append(b, ending...)
		for range by.Intn(3) {
			b[by.Intn(len(b))] = "0123456789abcdefABCDEFg\r\n ;"[by.Intn(27)]
		}
		walked(t, most, string(b)+"1\r\n")
		ends[wholly(string(b), most).e]++
		judged(t, string(b), most, wholly(string(b), most))
	}
	for _, e := range []api.Errno{api.OK, api.ErrForm, api.ErrBig} {
		if ends[e] < 300 {
			t.Errorf("error %d: %d times", e, ends[e])
		}
	}
}

// P12.1, R1: a nil reader, and one that New did not make.
func TestUnmade(t *testing.T) {
	var none *chunk.Reader
	var zero chunk.Reader
	for _, r := range []*chunk.Reader{none, &zero, new(chunk.Reader), {}} {
		for range 2 {
			for b := range 256 {
				put(t, r, byte(b), false, api.ErrNil)
			}
			for _, b := range []byte(chunks("x")) {
				put(t, r, b, false, api.ErrNil)
			}
			if got := r.Body(); len(got) != 0 {
				t.Errorf("Body: %q", got)
			}
		}
	}
}

// P12.1, R3: Body's answer is nobody else's, and what is written into it changes nothing.
func TestBodyIsNew(t *testing.T) {
	whole := chunks("ab", row(17, 1), row(300, 2), "c")
	said := "ab" + row(17, 1) + row(300, 2) + "c"
	r, m := made(t, longBody), &model{most: longBody}
	for i := range len(whole) {
		done, e := m.put(whole[i])
		put(t, r, whole[i], done, e)
		one, other := r.Body(), r.Body()
		if ownTwice(one, other) {
			t.Fatalf("behind byte %d two answers of Body have memory together", i)
		}
		spoil(one)
		spoil(append(other, "more"...))
		says(t, r, m.body())
	}
	kept := r.Body()
	put(t, r, 'x', false, api.ErrState)
	if string(kept) != said {
		t.Error("a byte behind the end changed what Body told")
	}

	r = fed(t, 9, "3\r\na")
	kept = r.Body()
	for _, b := range []byte("bc\r\n2\r\nde\r\n0\r\n\r") {
		put(t, r, b, false, api.OK)
	}
	put(t, r, '\n', true, api.OK)
	if string(kept) != "a" {
		t.Errorf("what Body told became %q", kept)
	}
	says(t, r, "abcde")

	r = fed(t, 9, "3\r\na")
	spoil(r.Body())
	put(t, r, 'b', false, api.OK)
	put(t, r, 'c', false, api.OK)
	put(t, r, 'x', false, api.ErrForm)
	spoil(r.Body())
	says(t, r, "abc")
}

// R4: readers that are given bytes by turns know nothing of one another.
func TestReadersApart(t *testing.T) {
	texts := []string{chunks("ab", "cd", row(20, 1)), chunks(row(40, 2)) + "x", "2\r\nxyz", "7\r\n1234567\r\n9", chunks("a", "b", "c", "d", "e", "f"), chunks()}
	mosts := []int{24, longBody, 2, 12, 6, 0}
	var readers []*chunk.Reader
	var models []*model
	for k := range texts {
		readers = append(readers, made(t, mosts[k]))
		models = append(models, &model{most: mosts[k]})
	}
	for i := range 60 {
		for k, s := range texts {
			b := s[min(i, len(s)-1)]
			whole, asked := models[k].put(b)
			put(t, readers[k], b, whole, asked)
			judged(t, s, mosts[k], wholly(s, mosts[k]))
			if _, e := chunk.Print([]byte(s), 1+i); e != api.OK {
				t.Fatalf("Print: error %d", e)
			}
		}
		for k, r := range readers {
			says(t, r, models[k].body())
		}
	}
}

// P12.1: the greatest body, in one chunk and in as many as there can be, is taken; a byte more is not.
func TestPutGreatest(t *testing.T) {
	said := row(longBody, 3)
	for _, s := range []string{piece(said), strings.Repeat(piece("x"), longBody), piece(said[:2047]) + piece(said[2047:]), piece(said[:1]) + piece(said[1:]), strings.Repeat(piece(row(16, 1)), 128)} {
		r := fed(t, longBody, s)
		if n := len(r.Body()); n != longBody {
			t.Fatalf("%d bytes", n)
		}
		for _, b := range []byte(ending[:len(ending)-1]) {
			put(t, r, b, false, api.OK)
		}
		put(t, r, '\n', true, api.OK)
		for _, b := range []byte(hexes[1:]) {
			put(t, fed(t, longBody, s), b, false, api.ErrBig)
		}
	}
}
