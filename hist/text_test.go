package hist_test

import (
	"encoding/binary"
	"math"
	"math/rand"
	"slices"
	"strings"
	"testing"

	"inquest/api"
	"inquest/hist"
)

// encodes asks for the text of a history.
func encodes(t *testing.T, want string, l ...api.Event) {
	t.Helper()
	if b, e := hist.Encode(l); e != api.OK || string(b) != want {
		t.Errorf("Encode of %v: %x, error %d, not %x", l, b, e, want)
	}
	if got, e := hist.Decode([]byte(want)); e != api.OK || !slices.Equal(got, l) {
		t.Errorf("Decode of %x: %v, error %d, not %v", want, got, e, l)
	}
	judged(t, l)
	reads(t, want)
}

// The chapter's example of a text.
func TestExampleText(t *testing.T) {
	encodes(t, "\x03\x01\x01\x0a\x03\x02\x0c\x00\x0e", call(0, 1, 5), call(1, 2, 6), answer(0, 7))
}

// P14.2: texts, byte by byte.
func TestTexts(t *testing.T) {
	encodes(t, "\x00")
	encodes(t, "\x01\x01\x00\x00", call(0, 0, 0))
	encodes(t, "\x01\x1f\x0f\x01", call(15, 15, -1))
	encodes(t, "\x02\x1f\x0f\x02\x1e\x03", call(15, 15, 1), answer(15, -2))
	for client := range manyClients {
		for op := range manyKinds {
			text := string([]byte{2, byte(2*client + 1), byte(op), 8, byte(2 * client), 7})
			encodes(t, text, call(client, op, 4), answer(client, -4))
		}
	}
}

// P14.2: values whose short numbers have any length.
func TestTextValues(t *testing.T) {
	for _, c := range []struct {
		val  int64
		text string
	}{
		{0, "\x00"}, {-1, "\x01"}, {1, "\x02"}, {-64, "\x7f"}, {63, "\x7e"},
		{64, "\x80\x01"}, {-65, "\x81\x01"}, {150, "\xac\x02"}, {-8192, "\xff\x7f"},
		{8192, "\x80\x80\x01"}, {1 << 20, "\x80\x80\x80\x01"},
		{1 << 61, "\x80\x80\x80\x80\x80\x80\x80\x80\x40"},
		{1<<62 - 1, "\xfe\xff\xff\xff\xff\xff\xff\xff\x7f"},
		{1 << 62, "\x80\x80\x80\x80\x80\x80\x80\x80\x80\x01"},
		{math.MaxInt64, "\xfe\xff\xff\xff\xff\xff\xff\xff\xff\x01"},
		{math.MinInt64, "\xff\xff\xff\xff\xff\xff\xff\xff\xff\x01"},
	} {
		encodes(t, "\x01\x05\x03"+c.text, call(2, 3, c.val))
		encodes(t, "\x02\x05\x03\x00\x04"+c.text, call(2, 3, 0), answer(2, c.val))
	}
	met := map[int]int{}
	for _, val := range widths() {
		b, _ := hist.Encode([]api.Event{call(0, 0, val)})
		met[len(b)-3]++
		judged(t, []api.Event{call(1, 2, val), call(2, 1, ^val), answer(1, val), answer(2, -val)})
	}
	for n := 1; n <= 10; n++ {
		if met[n] == 0 {
			t.Errorf("no value of %d bytes", n)
		}
	}
}

// P14.2: no events, one, 127 and 128.
func TestTextLengths(t *testing.T) {
	most := byOne(6, 64)
	for n := range manyEvents + 1 {
		b, e := hist.Encode(most[:n])
		head := string([]byte{byte(n)})
		if n == manyEvents {
			head = "\x80\x01"
		}
		if e != api.OK || !strings.HasPrefix(string(b), head) || len(b) != len(written(most[:n]...)) {
			t.Errorf("%d events: %x, error %d", n, b, e)
		}
		judged(t, most[:n])
	}
}

// P14.2: what is no history has no text; Encode's error is Check's.
func TestEncodeOfNone(t *testing.T) {
	for _, c := range []struct {
		l     []api.Event
		asked api.Errno
	}{
		{[]api.Event{call(16, 0, 0)}, api.ErrArg},
		{[]api.Event{call(0, 0, 0), {Client: 0, Op: 1}}, api.ErrArg},
		{[]api.Event{call(0, 16, 0)}, api.ErrArg},
		{byOne(0, 65), api.ErrBig},
		{byTurns(65), api.ErrBig},
		{[]api.Event{answer(0, 0)}, api.ErrState},
		{[]api.Event{call(0, 0, 0), call(0, 0, 0)}, api.ErrState},
		{[]api.Event{call(0, 0, 0), call(0, 0, 0), call(16, 0, 0)}, api.ErrState},
	} {
		if b, e := hist.Encode(c.l); e != c.asked || len(b) != 0 {
			t.Errorf("Encode of %v: %x, error %d, not %d", c.l, b, e, c.asked)
		}
		if ops, e := hist.Ops(c.l); e != c.asked || len(ops) != 0 {
			t.Errorf("Ops of %v: %v, error %d, not %d", c.l, ops, e, c.asked)
		}
	}
}

// P14.2: each beginning of a text ends too early; what stands behind a text is a rest.
func TestDecodeCut(t *testing.T) {
	for _, l := range samples() {
		s := written(l...)
		for n := range len(s) {
			decodes(t, s[:n], api.ErrShort)
		}
		decodes(t, s, api.OK)
		for c := range 256 {
			decodes(t, s+string([]byte{byte(c)}), api.ErrRest)
		}
		decodes(t, s+"\x00\x00", api.ErrRest)
		decodes(t, s+s, api.ErrRest)
		decodes(t, s+strings.Repeat("\x80", 200), api.ErrRest)
	}
}

// P14.2: one byte changed, at each place, to each value.
func TestDecodeChanged(t *testing.T) {
	met := map[api.Errno]int{}
	for _, l := range samples() {
		b := []byte(written(l...))
		for at, was := range b {
			for c := range 256 {
				b[at] = byte(c)
				met[reads(t, string(b))]++
			}
			b[at] = was
		}
	}
	for _, e := range []api.Errno{api.OK, api.ErrShort, api.ErrForm, api.ErrBig, api.ErrRest, api.ErrState} {
		if met[e] < 10 {
			t.Errorf("error %d: only %d times", e, met[e])
		}
	}
}

// P14.2: how many events there are.
func TestDecodeNumber(t *testing.T) {
	decodes(t, "", api.ErrShort)
	for _, s := range []string{"\x80", "\xff", "\x81\x80", strings.Repeat("\xff", 9)} {
		decodes(t, s, api.ErrShort)
	}
	for _, s := range []string{"\x80\x00", "\x81\x00", "\x83\x80\x00", strings.Repeat("\xff", 9) + "\x02", strings.Repeat("\xff", 10), strings.Repeat("\x80", 12), strings.Repeat("\x80", 9) + "\x00"} {
		decodes(t, s, api.ErrForm)
		decodes(t, s+"\x01\x01\x0a", api.ErrForm)
	}
	for _, n := range []uint64{129, 130, 255, 256, 257, 1 << 14, 1<<32 + 1, 1 << 32, 1 << 56, 1 << 63, 1<<63 + 1, math.MaxUint64} {
		s := string(binary.AppendUvarint(nil, n))
		decodes(t, s, api.ErrBig)
		decodes(t, s+"\xff", api.ErrBig)
		decodes(t, s+written(byOne(3, 64)...)[2:], api.ErrBig)
		decodes(t, s+written(byOne(3, 65)...)[2:], api.ErrBig)
	}
	decodes(t, "\x80\x01", api.ErrShort)
	decodes(t, "\x80\x01\x20", api.ErrForm)
	decodes(t, "\x80\x01"+written(byOne(3, 64)...)[2:], api.OK)
	decodes(t, "\x80\x01"+written(byOne(3, 65)...)[2:], api.ErrRest)
	decodes(t, "\x7f"+written(byOne(3, 63)...)[1:], api.ErrShort)
	decodes(t, "\x7f"+written(byOne(3, 64)...)[2:], api.ErrRest)
	decodes(t, "\x00\x00", api.ErrRest)
}

// P14.2: the client's byte, ahead of which all is good.
func TestDecodeClient(t *testing.T) {
	for who := range 256 {
		c := string([]byte{byte(who)})
		switch {
		case who > 31:
			for _, behind := range []string{"", "\x00", "\x00\x00", "\x0f\x80", "\x00\x00\x00"} {
				decodes(t, "\x01"+c+behind, api.ErrForm)
				decodes(t, "\x02\x01\x02\x03"+c+behind, api.ErrForm)
			}
		case who%2 == 1:
			decodes(t, "\x01"+c, api.ErrShort)
			decodes(t, "\x01"+c+"\x00", api.ErrShort)
			decodes(t, "\x01"+c+"\x00\x00", api.OK)
			decodes(t, "\x01"+c+"\x00\x00\x00", api.ErrRest)
		default:
			decodes(t, "\x01"+c, api.ErrShort)
			decodes(t, "\x01"+c+"\x00", api.ErrState)
			decodes(t, "\x01"+c+"\x00\x00", api.ErrRest)
			decodes(t, "\x02"+string([]byte{byte(who + 1)})+"\x00\x00"+c+"\x00", api.OK)
		}
	}
}

// P14.2: the operation's byte.
func TestDecodeOperation(t *testing.T) {
	for op := range 256 {
		c := string([]byte{byte(op)})
		if op > 15 {
			for _, behind := range []string{"", "\x00", "\x80", "\x00\x00"} {
				decodes(t, "\x01\x01"+c+behind, api.ErrForm)
				decodes(t, "\x01\x1f"+c+behind, api.ErrForm)
			}
			continue
		}
		decodes(t, "\x01\x01"+c, api.ErrShort)
		decodes(t, "\x01\x01"+c+"\x80", api.ErrShort)
		encodes(t, "\x01\x01"+c+"\x05", call(0, op, -3))
	}
}

// P14.2: values' short numbers that can't be, and that end too early.
func TestDecodeValue(t *testing.T) {
	for _, ahead := range []string{"\x01\x03\x04", "\x02\x03\x04\x05\x02", "\x03\x03\x04\x05\x02\x81\x01\x05\x07"} {
		for _, c := range []struct {
			text  string
			asked api.Errno
		}{
			{"", api.ErrShort},
			{"\x80", api.ErrShort},
			{"\xff\xff", api.ErrShort},
			{strings.Repeat("\x80", 9), api.ErrShort},
			{"\x80\x00", api.ErrForm},
			{"\xff\x80\x00", api.ErrForm},
			{strings.Repeat("\x80", 9) + "\x00", api.ErrForm},
			{strings.Repeat("\x80", 9) + "\x02", api.ErrForm},
			{strings.Repeat("\xff", 9) + "\x7f", api.ErrForm},
			{strings.Repeat("\xff", 10), api.ErrForm},
			{strings.Repeat("\xff", 10) + "\x01", api.ErrForm},
			{strings.Repeat("\xff", 9) + "\x01", api.OK},
			{strings.Repeat("\x80", 9) + "\x01", api.OK},
			{"\x80\x01", api.OK},
			{"\x00", api.OK},
			{"\x00\x00", api.ErrRest},
			{"\x80\x01\x80", api.ErrRest},
		} {
			decodes(t, ahead+c.text, c.asked)
		}
	}
}

// P14.2: events that are no history: Check's error, behind all the others.
func TestDecodeOfNone(t *testing.T) {
	for _, c := range []struct {
		l     []api.Event
		asked api.Errno
	}{
		{[]api.Event{answer(0, 0)}, api.ErrState},
		{[]api.Event{call(4, 0, 0), call(4, 0, 0)}, api.ErrState},
		{[]api.Event{call(4, 0, 0), answer(5, 0)}, api.ErrState},
		{[]api.Event{call(4, 0, 0), answer(4, 0), answer(4, 0), call(4, 0, 0)}, api.ErrState},
		{joined(together(48), waiting(16), []api.Event{call(0, 0, 0)}), api.ErrBig},
		{joined(byOne(9, 62), []api.Event{call(9, 0, 0), call(8, 0, 0), call(9, 0, 0)}), api.ErrBig},
		{joined(byOne(9, 62), []api.Event{call(9, 0, 0), call(8, 0, 0), call(7, 0, 0)}), api.ErrBig},
		{joined(byOne(9, 62), []api.Event{call(9, 0, 0), call(8, 0, 0), answer(7, 0)}), api.ErrState},
		{joined(byOne(9, 10), []api.Event{answer(9, 0)}, byOne(9, 50)), api.ErrState},
	} {
		s := written(c.l...)
		decodes(t, s, c.asked)
		decodes(t, s+"\x00", api.ErrRest)
		for n := range len(s) {
			decodes(t, s[:n], api.ErrShort)
		}
		more := written(append(slices.Clone(c.l), call(1, 2, 3))...)
		behind := len(more) - 3
		decodes(t, more[:behind]+"\x20", api.ErrForm)
		decodes(t, more[:behind]+"\x01\x10", api.ErrForm)
		decodes(t, more[:behind]+"\x01\x0f\x80\x00", api.ErrForm)
	}
}

// P14.2: which error comes first is told by the place, from the left.
func TestDecodeFirstPlace(t *testing.T) {
	for _, c := range []struct {
		s     string
		asked api.Errno
	}{
		{"\x02\x20\x01\x10", api.ErrForm},
		{"\x02\x01\x10\x20", api.ErrForm},
		{"\x02\x01\x00\x80", api.ErrShort},
		{"\x02\x01\x00\x00\x20", api.ErrForm},
		{"\x02\x01\x00\x00\x01", api.ErrShort},
		{"\x02\x01\x00\x00\x01\x10", api.ErrForm},
		{"\x02\x01\x00\x00\x01\x00", api.ErrShort},
		{"\x02\x01\x00\x00\x01\x00\x00", api.ErrState},
		{"\x02\x01\x00\x00\x01\x00\x00\x00", api.ErrRest},
		{"\x81\x01\x20", api.ErrBig},
		{"\x81\x01", api.ErrBig},
		{"\x81\x00", api.ErrForm},
		{"\x81", api.ErrShort},
	} {
		decodes(t, c.s, c.asked)
	}
}

// P14.2: all short texts of bytes that say something.
func TestAllShortTexts(t *testing.T) {
	from := []byte("\x00\x01\x02\x03\x0f\x10\x1f\x20\x7f\x80\x81\xff")
	var grow func(s []byte)
	grow = func(s []byte) {
		reads(t, string(s))
		if len(s) == 5 {
			return
		}
		for _, c := range from {
			grow(append(s[:len(s):len(s)], c))
		}
	}
	grow(nil)
}

// P14.2: texts by chance, and texts of histories of which some bytes are others.
func TestTextsByChance(t *testing.T) {
	r := rand.New(rand.NewSource(142))
	met := map[api.Errno]int{}
	for range 20000 {
		b := []byte(written(chance(r, r.Intn(40), 1+r.Intn(manyClients))...))
		for range 1 + r.Intn(3) {
			at := r.Intn(len(b))
			switch r.Intn(4) {
			case 0:
				b[at] = byte(r.Intn(256))
			case 1:
				b[at] ^= 1 << r.Intn(8)
			case 2:
				b = slices.Insert(b, at, byte(r.Intn(32)))
			case 3:
				b = append(slices.Delete(b, at, at+1), byte(r.Intn(3)))
			}
		}
		met[reads(t, string(b))]++
	}
	for _, e := range []api.Errno{api.OK, api.ErrShort, api.ErrForm, api.ErrBig, api.ErrRest, api.ErrState} {
		if met[e] < 20 {
			t.Errorf("error %d: only %d times", e, met[e])
		}
	}
}
