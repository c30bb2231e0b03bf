package code_test

import (
	"encoding/binary"
	"math"
	"math/rand"
	"slices"
	"strings"
	"testing"

	"inquest/api"
	"inquest/code"
)

// encodes asks for the text of code.
func encodes(t *testing.T, want string, l ...api.Ins) {
	t.Helper()
	if b, e := code.Encode(l); e != api.OK || string(b) != want {
		t.Errorf("Encode of %v: %x, error %d, not %x", l, b, e, want)
	}
	if got, e := code.Decode([]byte(want)); e != api.OK || !slices.Equal(got, l) {
		t.Errorf("Decode of %x: %v, error %d, not %v", want, got, e, l)
	}
	judged(t, l)
	reads(t, want)
}

// The chapter's example of a text.
func TestExampleText(t *testing.T) {
	encodes(t, "\x01\x13", refuse)
}

// P15.4: texts, byte by byte.
func TestTexts(t *testing.T) {
	encodes(t, "\x01\x10\x00", jump(0))
	encodes(t, "\x02\x00\x00\x12", push(0), answer)
	encodes(t, "\x04\x06\x05\x00\x00\x00\x12", do(api.IArg), store(0), push(0), answer)
	encodes(t, "\x03\x00\x01\x11\x00\x13", push(-1), unless(0), refuse)
	encodes(t, "\x03\x10\x04\x01\x13", jump(2), pop, refuse)
	encodes(t, "\x05\x04\x06\x05\x04\x07\x05\x00\x13", load(3), store(2), do(api.IKind), store(0), refuse)
	encodes(t, "\x09\x00\x02\x02\x03\x08\x0f\x11\x0e\x13\x06\x12", push(1), dup, do(api.ISwap), add, not, unless(7), refuse, do(api.IArg), answer)
	for _, w := range table {
		if hasText(w.op) {
			encodes(t, "\x02\x13"+string([]byte{byte(w.op), 2}), refuse, api.Ins{Op: w.op, N: 1})
		} else {
			encodes(t, "\x02\x13"+string([]byte{byte(w.op)}), refuse, do(w.op))
		}
	}
}

// P15.4: numbers whose short numbers have any length.
func TestTextNumbers(t *testing.T) {
	for _, c := range []struct {
		n    int64
		text string
	}{
		{0, "\x00"}, {-1, "\x01"}, {1, "\x02"}, {-64, "\x7f"}, {63, "\x7e"},
		{64, "\x80\x01"}, {-65, "\x81\x01"}, {150, "\xac\x02"}, {-8192, "\xff\x7f"},
		{8192, "\x80\x80\x01"}, {1 << 20, "\x80\x80\x80\x01"},
		{1 << 61, "\x80\x80\x80\x80\x80\x80\x80\x80\x40"},
		{1<<62 - 1, "\xfe\xff\xff\xff\xff\xff\xff\xff\x7f"},
		{1 << 62, "\x80\x80\x80\x80\x80\x80\x80\x80\x80\x01"},
		{math.MaxInt64, "\xfe\xff\xff\xff\xff\xff\xff\xff\xff\x01"},
		{math.MinInt64, "\xff\xff\xff\xff\xff\xff\xff\xff\xff\x01"},
	} {
		encodes(t, "\x02\x00"+c.text+"\x12", push(c.n), answer)
		encodes(t, "\x03\x13\x00"+c.text+"\x00"+c.text, refuse, push(c.n), push(c.n))
	}
	met := map[int]int{}
	for _, n := range widths() {
		b, _ := code.Encode([]api.Ins{push(n), answer})
		met[len(b)-3]++
		judged(t, []api.Ins{push(n), push(^n), unless(1), store(1), refuse, push(-n)})
	}
	for n := 1; n <= 10; n++ {
		if met[n] == 0 {
			t.Errorf("no number of %d bytes", n)
		}
	}
}

// P15.4: places whose short numbers have two bytes, and cells.
func TestTextPlaces(t *testing.T) {
	for place := range manyPlace {
		n := string(binary.AppendUvarint(nil, uint64(2*place)))
		l := refusals(manyPlace)
		rest := strings.Repeat("\x13", manyPlace-1)
		l[0] = jump(int64(place))
		encodes(t, "\xc8\x01\x10"+n+rest, l...)
		l[0], l[1] = refuse, unless(int64(place))
		encodes(t, "\xc8\x01\x13\x11"+n+rest[1:], l...)
	}
	for cell := range manyCells {
		c := string([]byte{byte(2 * cell)})
		encodes(t, "\x03\x04"+c+"\x05"+c+"\x13", load(int64(cell)), store(int64(cell)), refuse)
	}
}

// P15.4: 1 to 200 instructions.
func TestTextLengths(t *testing.T) {
	for n := 1; n <= manyPlace; n++ {
		head := string([]byte{byte(n)})
		if n > 127 {
			head = string([]byte{byte(n), 1})
		}
		encodes(t, head+strings.Repeat("\x13", n), refusals(n)...)
		judged(t, rising(n))
	}
	encodes(t, "\x7f\x00\x0e"+strings.Repeat("\x0f", 125)+"\x12", turns(127)...)
	encodes(t, "\x80\x01\x00\x0e"+strings.Repeat("\x0f", 126)+"\x12", turns(128)...)
	encodes(t, "\xc8\x01\x00\x0e"+strings.Repeat("\x0f", 198)+"\x12", turns(200)...)
}

// noCode answers rows that are no code, with Check's errors.
func noCode() map[api.Errno][][]api.Ins {
	return map[api.Errno][][]api.Ins{
		api.ErrBig:   {nil, {}, refusals(201), turns(210), list(do(20), refusals(200))},
		api.ErrCode:  {{do(20)}, {do(-1)}, {do(256)}, {refuse, load(4)}, {refuse, store(-1)}, {jump(1)}, {refuse, unless(2)}, {{Op: api.IRefuse, N: 1}}, {pop, {Op: api.IArg, N: -1}}},
		api.ErrShort: {{pop}, {push(0), add}, {push(0), unless(3), pop, refuse}},
		api.ErrFull:  {deep(9), list(deep(8), dup, refuse)},
		api.ErrRest:  {{push(1)}, {push(1), unless(0)}, turns(50)[:49]},
		api.ErrFlow:  {{push(1), jump(0)}, {push(0), unless(3), push(0), refuse}},
	}
}

// P15.4: what is no code has no text; Encode's error is Check's.
func TestEncodeOfNone(t *testing.T) {
	for asked, rows := range noCode() {
		for _, l := range rows {
			if b, e := code.Encode(l); e != asked || len(b) != 0 {
				t.Errorf("Encode of %v: %x, error %d, not %d", l, b, e, asked)
			}
			judged(t, l)
		}
	}
}

// P15.4: each beginning of a text ends too early; what stands behind a text is a rest.
func TestDecodeCut(t *testing.T) {
	for _, l := range append(samples(), longest()...) {
		s := written(l...)
		for n := range len(s) {
			decodes(t, s[:n], api.ErrShort)
		}
		decodes(t, s, api.OK)
		for c := range 256 {
			decodes(t, s+string([]byte{byte(c)}), api.ErrRest)
		}
		decodes(t, s+"\x00\x00", api.ErrRest)
		decodes(t, s+s, api.ErrRest)
		decodes(t, s+strings.Repeat("\x80", 200), api.ErrRest)
	}
}

// P15.4: one byte changed, at each place, to each value.
func TestDecodeChanged(t *testing.T) {
	met := map[api.Errno]int{}
	for _, l := range append(samples(), rising(manyPlace)) {
		b := []byte(written(l...))
		for at, was := range b {
			for c := range 256 {
				b[at] = byte(c)
				met[reads(t, string(b))]++
			}
			b[at] = was
		}
	}
	for _, e := range []api.Errno{api.OK, api.ErrShort, api.ErrForm, api.ErrBig, api.ErrRest, api.ErrCode, api.ErrFull, api.ErrFlow} {
		if met[e] < 10 {
			t.Errorf("error %d: only %d times", e, met[e])
		}
	}
}

// P15.4: how many instructions there are.
func TestDecodeMany(t *testing.T) {
	decodes(t, "", api.ErrShort)
	for _, s := range []string{"\x80", "\xff", "\x81\x80", strings.Repeat("\xff", 9)} {
		decodes(t, s, api.ErrShort)
	}
	for _, s := range []string{"\x80\x00", "\x81\x00", "\x83\x80\x00", strings.Repeat("\xff", 9) + "\x02", strings.Repeat("\xff", 10), strings.Repeat("\x80", 12), strings.Repeat("\x80", 9) + "\x00"} {
		decodes(t, s, api.ErrForm)
		decodes(t, s+"\x13\x13", api.ErrForm)
	}
	for _, n := range []uint64{201, 202, 210, 255, 256, 257, 1 << 14, 1<<32 + 1, 1 << 32, 1 << 56, 1 << 63, 1<<63 + 1, math.MaxUint64} {
		s := string(binary.AppendUvarint(nil, n))
		for _, behind := range []string{"", "\x13", "\xff", "\x00\x80\x00", strings.Repeat("\x13", 200), strings.Repeat("\x13", 201), strings.Repeat("\x13", 300)} {
			decodes(t, s+behind, api.ErrBig)
		}
	}
	decodes(t, "\xc8\x01", api.ErrShort)
	decodes(t, "\xc8\x01\x14", api.ErrCode)
	decodes(t, "\xc8\x01"+strings.Repeat("\x13", 199), api.ErrShort)
	decodes(t, "\xc8\x01"+strings.Repeat("\x13", 200), api.OK)
	decodes(t, "\xc8\x01"+strings.Repeat("\x13", 201), api.ErrRest)
	decodes(t, "\xc7\x01"+strings.Repeat("\x13", 199), api.OK)
}

// P15.4: no instructions are no code, which is told when nothing stands behind.
func TestDecodeOfNothing(t *testing.T) {
	decodes(t, "\x00", api.ErrBig)
	decodes(t, "\x00\x00", api.ErrRest)
	decodes(t, "\x00\x13", api.ErrRest)
	decodes(t, "\x00\x14", api.ErrRest)
	decodes(t, "\x00\x80", api.ErrRest)
}

// P15.4: the Op's byte.
func TestDecodeOp(t *testing.T) {
	for op := range 256 {
		c := string([]byte{byte(op)})
		switch {
		case op > 19:
			for _, behind := range []string{"", "\x00", "\x80", "\x13\x13", "\x80\x00"} {
				decodes(t, "\x01"+c+behind, api.ErrCode)
				decodes(t, "\x02\x13"+c+behind, api.ErrCode)
				decodes(t, "\x03\x13"+c+behind, api.ErrCode)
			}
		case hasText(op):
			decodes(t, "\x02\x13"+c, api.ErrShort)
			decodes(t, "\x02\x13"+c+"\x80", api.ErrShort)
			decodes(t, "\x02\x13"+c+"\x80\x00", api.ErrForm)
			decodes(t, "\x02\x13"+c+"\x02", api.OK)
			decodes(t, "\x02\x13"+c+"\x02\x00", api.ErrRest)
		default:
			decodes(t, "\x02\x13"+c, api.OK)
			decodes(t, "\x02\x13"+c+"\x00", api.ErrRest)
		}
	}
}

// P15.4: short numbers of N that can't be, and that end too early.
func TestDecodeNumber(t *testing.T) {
	for _, op := range []string{"\x00", "\x04", "\x05", "\x10", "\x11"} {
		for _, ahead := range []string{"\x02\x13", "\x03\x13\x00\x81\x01", "\x04\x00\x05\x12\x01"} {
			for _, c := range []struct {
				text  string
				asked api.Errno
			}{
				{"", api.ErrShort},
				{"\x80", api.ErrShort},
				{"\xff\xff", api.ErrShort},
				{strings.Repeat("\x80", 9), api.ErrShort},
				{"\x80\x00", api.ErrForm},
				{"\xff\x80\x00", api.ErrForm},
				{strings.Repeat("\x80", 9) + "\x00", api.ErrForm},
				{strings.Repeat("\x80", 9) + "\x02", api.ErrForm},
				{strings.Repeat("\xff", 9) + "\x7f", api.ErrForm},
				{strings.Repeat("\xff", 10), api.ErrForm},
				{strings.Repeat("\xff", 10) + "\x01", api.ErrForm},
				{"\x00", api.OK},
				{"\x02", api.OK},
				{"\x00\x00", api.ErrRest},
				{"\x80\x01\x80", api.ErrRest},
				{"\x01\x80", api.ErrRest},
			} {
				decodes(t, ahead+op+c.text, c.asked)
			}
			for _, far := range []string{"\x01", "\x80\x01", strings.Repeat("\xff", 9) + "\x01", strings.Repeat("\x80", 9) + "\x01"} {
				asked := api.ErrCode // no such cell, no such place
				if op == "\x00" {
					asked = api.OK
				}
				decodes(t, ahead+op+far, asked)
			}
		}
	}
}

// P15.4: cells and places in texts that can't be are told by Check, behind all that is found by reading.
func TestDecodeCellsPlaces(t *testing.T) {
	for n := range 128 {
		c := string([]byte{byte(n)})
		cell, place := api.ErrCode, api.ErrCode
		if n%2 == 0 && n <= 2*(manyCells-1) {
			cell = api.OK
		}
		if n%2 == 0 && n <= 2*2 {
			place = api.OK
		}
		decodes(t, "\x03\x13\x04"+c+"\x13", cell)
		decodes(t, "\x03\x13\x05"+c+"\x13", cell)
		decodes(t, "\x03\x13\x10"+c+"\x13", place)
		decodes(t, "\x03\x13\x11"+c+"\x13", place)
		for _, op := range []string{"\x04", "\x05", "\x10", "\x11"} {
			decodes(t, "\x03\x13"+op+c, api.ErrShort)
			decodes(t, "\x03\x13"+op+c+"\x13\x13", api.ErrRest)
			decodes(t, "\x03\x13"+op+c+"\x00\x80\x00", api.ErrForm)
		}
	}
}

// P15.4: instructions that do not fit together: Check's error, behind all the others.
func TestDecodeOfNone(t *testing.T) {
	for _, asked := range []api.Errno{api.ErrShort, api.ErrFull, api.ErrRest, api.ErrFlow} {
		for _, l := range noCode()[asked] {
			s := written(l...)
			decodes(t, s, asked)
			decodes(t, s+"\x00", api.ErrRest)
			for n := range len(s) {
				decodes(t, s[:n], api.ErrShort)
			}
			more := written(list(l, refuse)...)
			behind := len(more) - 1
			decodes(t, more[:behind]+"\x14", api.ErrCode)
			decodes(t, more[:behind]+"\x00\x80\x00", api.ErrForm)
			decodes(t, more[:behind]+"\x05\x08", api.ErrCode)
		}
	}
}

// P15.4: which error comes first is told by the place, from the left.
func TestDecodeFirstPlace(t *testing.T) {
	for _, c := range []struct {
		s     string
		asked api.Errno
	}{
		{"\x02\x14\x00\x80\x00", api.ErrCode},
		{"\x02\x00\x80\x00\x14", api.ErrForm},
		{"\x02\x00\x80", api.ErrShort},
		{"\x02\x04\x08\x14", api.ErrCode},
		{"\x02\x04\x08", api.ErrShort},
		{"\x02\x04\x08\x00\x80\x00", api.ErrForm},
		{"\x01\x04\x08", api.ErrCode},
		{"\x01\x04\x08\x00", api.ErrRest},
		{"\x01\x01", api.ErrShort},
		{"\x01\x01\x01", api.ErrRest},
		{"\x02\x01", api.ErrShort},
		{"\x01\x00\x02", api.ErrRest}, // Check's: the code goes on behind its end
		{"\x01\x00\x02\x00", api.ErrRest},
		{"\xc9\x01\x14", api.ErrBig},
		{"\xc9\x01", api.ErrBig},
		{"\xc9\x00", api.ErrForm},
		{"\xc9", api.ErrShort},
	} {
		decodes(t, c.s, c.asked)
	}
}

// P15.4: all short texts of bytes that say something.
func TestAllShortTexts(t *testing.T) {
	from := []byte("\x00\x01\x02\x03\x04\x10\x11\x12\x13\x14\x80\xff")
	var grow func(s []byte)
	grow = func(s []byte) {
		reads(t, string(s))
		if len(s) == 5 {
			return
		}
		for _, c := range from {
			grow(append(s[:len(s):len(s)], c))
		}
	}
	grow(nil)
}

// P15.4, P15.5: texts by chance, there and back, and such of which some instructions or bytes are others.
func TestTextsByChance(t *testing.T) {
	r := rand.New(rand.NewSource(154))
	met := map[api.Errno]int{}
	for range 30000 {
		l, _ := chance(r, 1+r.Intn(40))
		b := []byte(written(l...))
		if e := reads(t, string(b)); e != api.OK {
			t.Fatalf("Decode of %x: error %d", b, e)
		}
		if r.Intn(2) == 0 {
			b = []byte(written(changed(r, l)...))
		}
		for range r.Intn(4) {
			at := r.Intn(len(b))
			switch r.Intn(5) {
			case 0:
				b[at] = byte(r.Intn(256))
			case 1:
				b[at] ^= 1 << r.Intn(8)
			case 2:
				b[at] = byte(r.Intn(20))
			case 3:
				b = slices.Insert(b, at, byte(r.Intn(20)))
			case 4:
				b = append(slices.Delete(b, at, at+1), byte(r.Intn(20)))
			}
		}
		met[reads(t, string(b))]++
	}
	for _, e := range []api.Errno{api.OK, api.ErrShort, api.ErrForm, api.ErrBig, api.ErrRest, api.ErrCode, api.ErrFull, api.ErrFlow} {
		if met[e] < 20 {
			t.Errorf("error %d: only %d times", e, met[e])
		}
	}
}
