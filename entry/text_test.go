package entry_test

import (
	"math"
	"slices"
	"strings"
	"testing"

	"inquest/api"
	"inquest/entry"
)

// encodes asks for the text of an entry, and for the entry of that text.
func encodes(t *testing.T, want string, e api.Entry) {
	t.Helper()
	if b, err := entry.Encode(e); err != api.OK || string(b) != want {
		t.Errorf("Encode of %v: %x, error %d, not %x", e, b, err, want)
	}
	if got, err := entry.Decode([]byte(want)); err != api.OK || !same(got, e) {
		t.Errorf("Decode of %x: %v, error %d, not %v", want, got, err, e)
	}
	judged(t, e)
	reads(t, want)
}

// sums are the 64 bytes of the digests that plain answers.
const sums = "\x21\x22\x23\x24\x25\x26\x27\x28\x29\x2a\x2b\x2c\x2d\x2e\x2f\x30" +
	"\x31\x32\x33\x34\x35\x36\x37\x38\x39\x3a\x3b\x3c\x3d\x3e\x3f\x40" +
	"\xa1\xa2\xa3\xa4\xa5\xa6\xa7\xa8\xa9\xaa\xab\xac\xad\xae\xaf\xb0" +
	"\xb1\xb2\xb3\xb4\xb5\xb6\xb7\xb8\xb9\xba\xbb\xbc\xbd\xbe\xbf\xc0"

// P20.2: texts, byte by byte.
func TestTexts(t *testing.T) {
	nought := strings.Repeat("\x00", 64)
	encodes(t, "\x00\x00"+nought+"\x01\x00\x00", api.Entry{Verdict: api.Verdict{Kind: api.Fits}})
	encodes(t, "\x02\x05"+sums+"\x01\x03\x02\x01\x00", plain(api.Fits, 1, 0))
	encodes(t, "\x02\x05"+sums+"\x01\x03\x01\x3f", plain(api.Fits, 63))
	for kind := 1; kind <= 4; kind++ {
		encodes(t, "\x02\x05"+sums+string([]byte{byte(kind)})+"\x03\x00", plain(kind))
	}
	encodes(t, "\x02\x05"+sums+"\x01\x03\x40"+bytesOf(upTo(64)...), plain(api.Fits, upTo(64)...))
	encodes(t, "\x02\x05"+sums+"\x01\x03\x40"+bytesOf(downFrom(64)...), plain(api.Fits, downFrom(64)...))
}

// P20.2: the numbers of an entry, short ones of any length.
func TestTextNumbers(t *testing.T) {
	for _, c := range []struct {
		n    int
		text string
	}{
		{0, "\x00"}, {1, "\x01"}, {63, "\x3f"}, {64, "\x40"}, {127, "\x7f"}, {128, "\x80\x01"}, {300, "\xac\x02"},
		{1<<14 - 1, "\xff\x7f"}, {1 << 14, "\x80\x80\x01"}, {1<<28 - 1, "\xff\xff\xff\x7f"},
		{mostTries - 1, "\xff\xff\xff\xff\x03"}, {mostTries, "\x80\x80\x80\x80\x04"},
		{1 << 35, "\x80\x80\x80\x80\x80\x01"}, {mostTime - 1, "\xff\xff\xff\xff\xff\x1f"}, {mostTime, "\x80\x80\x80\x80\x80\x20"},
	} {
		e := plain(api.Fits, 4, 9)
		if c.n <= lastJob {
			e.Job = c.n
			encodes(t, c.text+"\x05"+sums+"\x01\x03\x02\x04\x09", e)
			e.Job = 2
		}
		if c.n <= mostTries {
			e.Verdict.Tries = c.n
			encodes(t, "\x02\x05"+sums+"\x01"+c.text+"\x02\x04\x09", e)
			e.Verdict.Tries = 3
		}
		e.Time = c.n
		encodes(t, "\x02"+c.text+sums+"\x01\x03\x02\x04\x09", e)
	}
}

// P20.2: digests stand in their text byte by byte, History ahead of Spec.
func TestTextDigests(t *testing.T) {
	for i := range 64 {
		var e api.Entry
		e.Verdict.Kind = api.OutTry
		if i < 32 {
			e.History[i] = 0xe5
		} else {
			e.Spec[i-32] = 0xe5
		}
		encodes(t, "\x00\x00"+strings.Repeat("\x00", i)+"\xe5"+strings.Repeat("\x00", 63-i)+"\x04\x00\x00", e)
	}
}

// P20.2: Orders of each length and of each number.
func TestTextOrders(t *testing.T) {
	for n := range 65 {
		text := "\x02\x05" + sums + "\x01\x03" + string([]byte{byte(n)})
		encodes(t, text+bytesOf(upTo(n)...), plain(api.Fits, upTo(n)...))
		encodes(t, text+bytesOf(downFrom(n)...), plain(api.Fits, downFrom(n)...))
	}
	for x := range lastPlace + 1 {
		encodes(t, "\x02\x05"+sums+"\x01\x03\x01"+string([]byte{byte(x)}), plain(api.Fits, x))
	}
}

// P20.2: of nothing there is no entry, nor, but once, of one byte many times.
func TestDecodeNothing(t *testing.T) {
	refuses(t, "")
	if e, err := entry.Decode(nil); err != api.ErrForm || !same(e, api.Entry{}) {
		t.Errorf("Decode of nil: %v, error %d", e, err)
	}
	met := map[api.Errno]int{}
	for c := range 256 {
		refuses(t, string([]byte{byte(c)}))
		for n := range 150 {
			met[reads(t, strings.Repeat(string([]byte{byte(c)}), n))]++
		}
	}
	if met[api.OK] != 1 { // seventy times 1 is a text: of an Order of one number
		t.Errorf("%d texts of one byte alone", met[api.OK])
	}
}

// P20.2: a beginning of a text is none, nor is one with something behind it.
func TestDecodeCut(t *testing.T) {
	for _, e := range samples() {
		s := written(e)
		if reads(t, s) != api.OK {
			t.Errorf("Decode of %x: an error", s)
		}
		for n := range len(s) {
			refuses(t, s[:n])
		}
		for c := range 256 {
			refuses(t, s+string([]byte{byte(c)}))
		}
		refuses(t, s+"\x00\x00")
		refuses(t, s+s)
	}
}

// P20.2: one byte changed, at each place, to each value.
func TestDecodeChanged(t *testing.T) {
	met := map[api.Errno]int{}
	for _, e := range samples() {
		b := []byte(written(e))
		for at, was := range b {
			for c := range 256 {
				b[at] = byte(c)
				met[reads(t, string(b))]++
			}
			b[at] = was
		}
	}
	often(t, met, 1000, api.OK, api.ErrForm)
}

// numbers answers the short numbers of an entry's text, where they stand.
func (p *parts) numbers() []*string { return []*string{&p.job, &p.time, &p.tries, &p.count} }

// P20.2: short numbers that are none: with a nought at their end, or too great for 64 bits.
func TestDecodeNotShort(t *testing.T) {
	for _, e := range samples() {
		for i := range 4 {
			p := partsOf(e)
			n := p.numbers()[i]
			was := []byte(*n)
			was[len(was)-1] |= 0x80
			for _, behind := range []string{"\x00", "\x80\x00", "\x80\x80\x00"} {
				*n = string(was) + behind
				refuses(t, p.text())
			}
			for _, long := range []string{
				strings.Repeat("\x80", 9) + "\x00", strings.Repeat("\x80", 9) + "\x02", strings.Repeat("\xff", 9) + "\x02",
				strings.Repeat("\x80", 10), strings.Repeat("\xff", 10), strings.Repeat("\x80", 10) + "\x00", strings.Repeat("\xff", 20) + "\x01",
			} {
				*n = long
				refuses(t, p.text())
			}
		}
	}
}

// P20.2: short numbers that do not end, since the text does.
func TestDecodeNoEnd(t *testing.T) {
	for _, e := range samples() {
		p := partsOf(e)
		for _, ahead := range []string{"", p.job, p.job + p.time + p.history + p.spec + p.kind, p.job + p.time + p.history + p.spec + p.kind + p.tries} {
			for n := 1; n < 12; n++ {
				refuses(t, ahead+strings.Repeat("\x80", n))
				refuses(t, ahead+strings.Repeat("\xff", n))
			}
		}
	}
}

// P20.2: short numbers above what Job, Time, Tries and the count may be.
func TestDecodeTooGreat(t *testing.T) {
	for _, e := range samples() {
		for i, most := range []uint64{lastJob, mostTime, mostTries, 64} {
			for _, x := range []uint64{most + 1, most + 2, most + 256, most + 1<<32, 1 << 62, 1 << 63, 1<<63 + 2, math.MaxUint64 - 1, math.MaxUint64} {
				p := partsOf(e)
				*p.numbers()[i] = short(x)
				refuses(t, p.text())
			}
		}
	}
}

// P20.2: Kinds that are none.
func TestDecodeKind(t *testing.T) {
	for _, e := range samples() {
		for kind := range 256 {
			p := partsOf(e)
			p.kind = string([]byte{byte(kind)})
			switch {
			case kind < 1 || kind > 4 || kind > 1 && len(e.Verdict.Order) > 0:
				refuses(t, p.text())
			case reads(t, p.text()) != api.OK:
				t.Errorf("Decode of %x: an error", p.text())
			}
		}
	}
}

// P20.2: a count of other than there are.
func TestDecodeCount(t *testing.T) {
	for _, e := range samples() {
		for n := range 130 {
			p := partsOf(e)
			p.count = short(uint64(n))
			if n != len(e.Verdict.Order) {
				refuses(t, p.text())
			}
		}
	}
	p := partsOf(plain(api.Fits, upTo(64)...))
	p.count = "\x41"
	for c := range 256 {
		p.order = bytesOf(append(upTo(64), c)...)
		refuses(t, p.text())
	}
	p.count, p.order = "\x80\x01", bytesOf(append(upTo(64), upTo(64)...)...)
	refuses(t, p.text())
}

// P20.2: numbers behind a Kind that has none.
func TestDecodeOrderOfOthers(t *testing.T) {
	for _, order := range [][]int{{0}, {63}, {64}, {1, 0}, {0, 0}, upTo(64)} {
		for _, kind := range []int{api.FitsNot, api.OutFuel, api.OutTry} {
			refuses(t, written(plain(kind, order...)))
		}
	}
}

// P20.2: numbers of an Order that are no places, or stand there twice.
func TestDecodeOrder(t *testing.T) {
	for _, n := range []int{1, 2, 3, 64} {
		order := downFrom(n)
		for at := range order {
			for _, x := range []int{64, 65, 127, 128, 192, 255} {
				refuses(t, written(plain(api.Fits, placed(order, at, x)...)))
			}
			for other := range order {
				if other != at {
					refuses(t, written(plain(api.Fits, placed(order, at, order[other])...)))
				}
			}
		}
	}
}

// P20.2: an Order of none is none, whatever Kind has it.
func TestDecodeNoOrder(t *testing.T) {
	for kind := 1; kind <= 4; kind++ {
		e, err := entry.Decode([]byte(written(plain(kind))))
		if err != api.OK || len(e.Verdict.Order) != 0 || e.Verdict.Kind != kind {
			t.Errorf("Kind %d: %v, error %d", kind, e, err)
		}
	}
}

// P20.2: pieces of a text in another order, twice, or not at all.
func TestDecodePieces(t *testing.T) {
	e := plain(api.Fits, 3, 1, 2)
	e.Job, e.Time, e.Verdict.Tries = 61, mostTime, mostTries
	p := partsOf(e)
	pieces := []string{p.job, p.time, p.history, p.spec, p.kind, p.tries, p.count, p.order}
	met := map[api.Errno]int{}
	for i, x := range pieces {
		less := slices.Delete(slices.Clone(pieces), i, i+1)
		met[reads(t, strings.Join(less, ""))]++
		for k := range len(less) + 1 {
			met[reads(t, strings.Join(slices.Insert(slices.Clone(less), k, x), ""))]++
			met[reads(t, strings.Join(slices.Insert(slices.Clone(pieces), k, x), ""))]++
		}
	}
	often(t, met, len(pieces), api.OK, api.ErrForm)
}

// P20.2: all short numbers of up to three bytes out of some, in the place of each.
func TestDecodeShortNumbers(t *testing.T) {
	from := []byte("\x00\x01\x02\x04\x20\x3f\x40\x41\x7f\x80\x81\xbf\xc0\xff")
	met := map[api.Errno]int{}
	for i := range 4 {
		var fill func(s string)
		fill = func(s string) {
			for _, e := range []api.Entry{plain(api.Fits, 1, 0), plain(api.OutTry)} {
				p := partsOf(e)
				*p.numbers()[i] = s
				met[reads(t, p.text())]++
			}
			if len(s) == 3 {
				return
			}
			for _, c := range from {
				fill(s + string([]byte{c}))
			}
		}
		fill("")
	}
	often(t, met, 1000, api.OK, api.ErrForm)
}
