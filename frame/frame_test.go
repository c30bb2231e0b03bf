package frame_test

import (
	"bytes"
	"encoding/binary"
	"hash/crc32"
	"math"
	"math/bits"
	"math/rand"
	"slices"
	"strings"
	"testing"

	"inquest/api"
	"inquest/frame"
)

const most = 1 << 14 // bytes of a text, as the chapter says it

var (
	numbers = []uint64{1, 2, 127, 128, 255, 256, 65535, 1<<32 - 1, 1 << 32, 1<<32 + 1, 0x0102030405060708, 1<<63 - 1, 1 << 63, math.MaxUint64 - 1, math.MaxUint64}
	lengths = []int{0, 1, 2, 3, 4, 5, 11, 12, 13, 15, 16, 17, 20, 63, 64, 65, 255, 256, 257, 1000, 4096, most - 1, most}
)

// row answers n bytes of all values, another row for each seed.
func row(n, seed int) []byte {
	b := make([]byte, n)
	for i := range b {
		b[i] = byte(37*seed + i*i + i>>3)
	}
	return b
}

// roomy answers bytes behind which there is room that is not theirs, and all of it.
func roomy(b []byte) (part, whole []byte) {
	whole = append(bytes.Clone(b), row(200, 99)...)
	return whole[:len(b)], whole
}

// chapterSum does what Sum must do bit by bit, with lists of bits in the place of numbers.
func chapterSum(b []byte) uint32 {
	var c, by [32]bool
	for i := range c {
		c[i] = true
		by[i] = 0xedb88320>>i&1 == 1
	}
	for _, x := range b {
		for i := range 8 {
			c[i] = c[i] != (x>>i&1 == 1)
		}
		for range 8 {
			out := c[0]
			copy(c[:], c[1:])
			c[31] = false
			for i := range c {
				c[i] = c[i] != (out && by[i])
			}
		}
	}
	sum := uint32(0)
	for i, set := range c {
		if !set {
			sum |= 1 << i
		}
	}
	return sum
}

// libHead answers a head with its right sum behind, whatever it says.
func libHead(said uint32, seq uint64) []byte {
	b := binary.BigEndian.AppendUint32(nil, said)
	return libSummed(binary.BigEndian.AppendUint64(b, seq))
}

// libSummed answers bytes with their sum behind.
func libSummed(b []byte) []byte {
	return binary.LittleEndian.AppendUint32(bytes.Clone(b), crc32.ChecksumIEEE(b))
}

func libFrame(seq uint64, text []byte) []byte {
	return append(libHead(uint32(len(text)), seq), libSummed(text)...)
}

// told is what Read answers.
type told struct {
	seq  uint64
	text string
	n    int
	e    api.Errno
}

// read does Read, and looks whether an error stands alone.
func read(t *testing.T, b []byte) told {
	t.Helper()
	seq, text, n, e := frame.Read(b)
	if e != api.OK && (seq != 0 || len(text) != 0 || n != 0) {
		t.Errorf("beside error %d: %d, %x, %d", e, seq, text, n)
	}
	return told{seq, string(text), n, e}
}

func refused(e api.Errno) told { return told{e: e} }

// libRead does what Read must do by the library.
func libRead(b []byte) told {
	if len(b) < 16 {
		return refused(api.ErrShort)
	}
	if !bytes.Equal(libSummed(b[:12]), b[:16]) {
		return refused(api.ErrSum)
	}
	said, seq := int64(binary.BigEndian.Uint32(b)), binary.BigEndian.Uint64(b[4:])
	if seq == 0 {
		return refused(api.ErrForm)
	}
	if said > most {
		return refused(api.ErrBig)
	}
	if int64(len(b)) < 16+said+4 {
		return refused(api.ErrShort)
	}
	if end := 16 + said; !bytes.Equal(libSummed(b[16:end]), b[16:end+4]) {
		return refused(api.ErrSum)
	}
	return told{seq, string(b[16 : 16+said]), int(16 + said + 4), api.OK}
}

// judged holds Read of bytes against the library's, and against what is known of them.
func judged(t *testing.T, what string, b []byte, want told) {
	t.Helper()
	got := read(t, b)
	if got != want || libRead(b) != want {
		t.Errorf("%s: %d, %d bytes, %d, error %d; not %d, %d bytes, %d, error %d",
			what, got.seq, len(got.text), got.n, got.e, want.seq, len(want.text), want.n, want.e)
	}
}

// put does Put of what can be put.
func put(t *testing.T, seq uint64, text []byte) []byte {
	t.Helper()
	f, e := frame.Put(seq, text)
	if e != api.OK {
		t.Fatalf("Put(%d, %d bytes): error %d", seq, len(text), e)
	}
	return f
}

// P8.1: the chapter's example, and other known sums.
func TestSumOfExamples(t *testing.T) {
	for _, c := range []struct {
		text string
		want uint32
	}{
		{"123456789", 0xcbf43926},
		{"", 0},
		{"\x00", 0xd202ef8d},
		{"\xff", 0xff000000},
		{"a", 0xe8b7be43},
		{"abc", 0x352441c2},
		{"The quick brown fox jumps over the lazy dog", 0x414fa339},
		{strings.Repeat("\x00", 32), 0x190a55ad},
		{strings.Repeat("\xff", 32), 0xff6cab0b},
		{strings.Repeat("\xff", 4), 0xffffffff},
	} {
		if got := frame.Sum([]byte(c.text)); got != c.want {
			t.Errorf("Sum(%q): %08x, not %08x", c.text, got, c.want)
		}
	}
	if frame.Sum(nil) != 0 || frame.Sum([]byte{}) != 0 {
		t.Error("the sum of nothing is not 0")
	}
}

// sumIs holds Sum against the library's and the chapter's words.
func sumIs(t *testing.T, b []byte) {
	t.Helper()
	got := frame.Sum(b)
	if want := crc32.ChecksumIEEE(b); got != want {
		t.Errorf("Sum of %d bytes: %08x, not %08x", len(b), got, want)
	}
	if want := chapterSum(b); got != want {
		t.Errorf("Sum of %d bytes: %08x, by the chapter %08x", len(b), got, want)
	}
}

// P8.1: each byte alone, ahead of another one and behind it.
func TestSumOfEachByte(t *testing.T) {
	seen := map[uint32]int{}
	for x := range 256 {
		sumIs(t, []byte{byte(x)})
		sumIs(t, []byte{byte(x), 7})
		sumIs(t, []byte{7, byte(x)})
		seen[frame.Sum([]byte{byte(x)})]++
	}
	if len(seen) != 256 {
		t.Errorf("256 bytes have %d sums", len(seen))
	}
}

// P8.1: each length up to 300, and long texts.
func TestSumOfAllLengths(t *testing.T) {
	for n := range 301 {
		sumIs(t, row(n, n))
		sumIs(t, make([]byte, n))
		sumIs(t, bytes.Repeat([]byte{255}, n))
	}
	for _, n := range []int{1023, 1024, 4096, most - 1, most, most + 1, 1 << 17, 300001} {
		sumIs(t, row(n, 1))
	}
}

// P8.1: each bit tells.
func TestSumHangsOnEachBit(t *testing.T) {
	b := row(100, 2)
	seen := map[uint32]int{frame.Sum(b): 1}
	for i := range 8 * len(b) {
		b[i/8] ^= 1 << (i % 8)
		seen[frame.Sum(b)]++
		b[i/8] ^= 1 << (i % 8)
	}
	if len(seen) != 1+8*len(b) {
		t.Errorf("%d unlike texts have %d sums", 1+8*len(b), len(seen))
	}
}

// P8.2
func TestSize(t *testing.T) {
	for _, c := range []struct{ n, want int }{
		{0, 20}, {1, 21}, {2, 22}, {3, 23}, {4, 24}, {64, 84}, {most - 1, 16403}, {most, 16404},
		{most + 1, 16405}, {1 << 20, 1<<20 + 20}, {math.MaxInt32, math.MaxInt32 + 20}, {math.MaxInt - 20, math.MaxInt},
		{-1, 20}, {-2, 20}, {-19, 20}, {-20, 20}, {-21, 20}, {-most, 20}, {math.MinInt32, 20}, {math.MinInt + 1, 20}, {math.MinInt, 20},
	} {
		if got := frame.Size(c.n); got != c.want {
			t.Errorf("Size(%d): %d, not %d", c.n, got, c.want)
		}
	}
}

// P8.2: the chapter's example, and a frame written out.
func TestPutOfExamples(t *testing.T) {
	for _, c := range []struct {
		seq  uint64
		text string
		want []byte
	}{
		{1, "", []byte{0, 0, 0, 0, 0, 0, 0, 0, 0, 0, 0, 1, 0xf9, 0xf6, 0xd2, 0x0c, 0, 0, 0, 0}},
		{0x0102030405060708, "123456789", []byte{0, 0, 0, 9, 1, 2, 3, 4, 5, 6, 7, 8, 0x98, 0x27, 0x9e, 0x8d,
			'1', '2', '3', '4', '5', '6', '7', '8', '9', 0x26, 0x39, 0xf4, 0xcb}},
	} {
		if got := put(t, c.seq, []byte(c.text)); !bytes.Equal(got, c.want) {
			t.Errorf("Put(%d, %q): % x, not % x", c.seq, c.text, got, c.want)
		}
	}
}

// chapterByte answers byte i of a frame, by the chapter's words alone.
func chapterByte(seq uint64, text []byte, i int) byte {
	n := len(text)
	switch {
	case i < 4:
		return byte(n >> (8 * (3 - i)))
	case i < 12:
		return byte(seq >> (8 * (11 - i)))
	case i < 16:
		var head []byte
		for k := range 12 {
			head = append(head, chapterByte(seq, text, k))
		}
		return byte(chapterSum(head) >> (8 * (i - 12)))
	case i < 16+n:
		return text[i-16]
	}
	return byte(chapterSum(text) >> (8 * (i - 16 - n)))
}

// P8.2: each byte of a frame, of all numbers and lengths.
func TestPutByteByByte(t *testing.T) {
	for _, seq := range numbers {
		for _, n := range lengths {
			if n > 300 && seq != 2 && seq != math.MaxUint64 {
				continue
			}
			text := row(n, n+int(seq%7))
			got := put(t, seq, text)
			if len(got) != 20+n || len(got) != frame.Size(n) {
				t.Fatalf("Put(%d, %d bytes): %d bytes", seq, n, len(got))
			}
			for i, x := range got {
				if want := chapterByte(seq, text, i); x != want {
					t.Errorf("Put(%d, %d bytes): byte %d is %02x, not %02x", seq, n, i, x, want)
				}
			}
		}
	}
}

// P8.2: each length up to 700, against the library.
func TestPutOfEachLength(t *testing.T) {
	for n := range 700 {
		seq := uint64(n)*0x9e3779b97f4a7c15 + 1
		if got, want := put(t, seq, row(n, 3)), libFrame(seq, row(n, 3)); !bytes.Equal(got, want) {
			t.Errorf("Put(%d, %d bytes): % x, not % x", seq, n, got, want)
		}
	}
}

// P8.2: each bit of the number and of the text tells, and stands in one place.
func TestPutOfEachBit(t *testing.T) {
	for bit := range 64 {
		f := put(t, 1<<bit, nil)
		for i, x := range f[:12] {
			want := byte(0)
			if i == 11-bit/8 {
				want = 1 << (bit % 8)
			}
			if x != want {
				t.Errorf("Put(2^%d, nothing): byte %d is %02x", bit, i, x)
			}
		}
	}
}

// P8.2: what can't be put; the number is looked at first.
func TestPutRefuses(t *testing.T) {
	for _, c := range []struct {
		seq  uint64
		n    int
		want api.Errno
	}{
		{0, 0, api.ErrArg},
		{0, 1, api.ErrArg},
		{0, most, api.ErrArg},
		{0, most + 1, api.ErrArg},
		{0, 1 << 20, api.ErrArg},
		{1, most + 1, api.ErrBig},
		{1, most + 2, api.ErrBig},
		{1, 2 * most, api.ErrBig},
		{1, 1<<16 + 1, api.ErrBig},
		{1, 1 << 20, api.ErrBig},
		{math.MaxUint64, most + 1, api.ErrBig},
		{1 << 63, 1 << 18, api.ErrBig},
		{1, most, api.OK},
		{1, most - 1, api.OK},
		{1, 0, api.OK},
		{math.MaxUint64, most, api.OK},
	} {
		f, e := frame.Put(c.seq, row(c.n, 4))
		if e != c.want {
			t.Errorf("Put(%d, %d bytes): error %d, not %d", c.seq, c.n, e, c.want)
		}
		if e != api.OK && len(f) != 0 {
			t.Errorf("Put(%d, %d bytes): %d bytes beside error %d", c.seq, c.n, len(f), e)
		}
	}
}

// P8.2 (R3): nil and empty lists are alike.
func TestNilAndEmpty(t *testing.T) {
	if !bytes.Equal(put(t, 9, nil), put(t, 9, []byte{})) {
		t.Error("nil is put in another way than an empty list")
	}
	judged(t, "nil", nil, refused(api.ErrShort))
	judged(t, "an empty list", []byte{}, refused(api.ErrShort))
	if _, e := frame.Put(0, nil); e != api.ErrArg {
		t.Errorf("Put(0, nil): error %d", e)
	}
}

// P8.3: fewer than 16 bytes are too short, whatever they are.
func TestReadOfFewBytes(t *testing.T) {
	head := libHead(0, 1)
	for n := range 16 {
		for _, b := range [][]byte{make([]byte, n), row(n, 5), bytes.Repeat([]byte{255}, n), head[:n], libHead(1<<20, 0)[:n]} {
			judged(t, "few bytes", b, refused(api.ErrShort))
		}
	}
	// Of 16 bytes the sum is looked at: none of the others is short any more.
	judged(t, "16 noughts", make([]byte, 16), refused(api.ErrSum))
	judged(t, "a head alone", head, refused(api.ErrShort))
	judged(t, "a head of the number 0 alone", libHead(0, 0), refused(api.ErrForm))
	judged(t, "a head of too many bytes alone", libHead(most+1, 1), refused(api.ErrBig))
}

// P8.3: the chapter's example, and other rows of one byte.
func TestReadOfOneByteAgainAndAgain(t *testing.T) {
	judged(t, "twenty noughts", make([]byte, 20), refused(api.ErrSum))
	for n := 16; n < 60; n++ {
		judged(t, "noughts", make([]byte, n), refused(api.ErrSum))
		judged(t, "bytes 255", bytes.Repeat([]byte{255}, n), refused(api.ErrSum))
		judged(t, "bytes 1", bytes.Repeat([]byte{1}, n), refused(api.ErrSum))
	}
	judged(t, "many noughts", make([]byte, 2*most), refused(api.ErrSum))
}

// P8.3, P8.4: what is put is read, with nothing, something and another frame behind it.
func TestReadOfWhatIsPut(t *testing.T) {
	another := put(t, 77, []byte("another"))
	for _, seq := range numbers {
		for _, n := range lengths {
			text := row(n, n+6)
			f := put(t, seq, text)
			want := told{seq, string(text), 20 + n, api.OK}
			for _, behind := range [][]byte{nil, {0}, {255}, row(3, 7), row(4, 8), row(40, 9), another, another[:10], another[:19], f} {
				judged(t, "a frame", slices.Concat(f, behind), want)
			}
		}
	}
}

// P8.3: each length that a head may say, and no text that was changed.
func TestReadOfEachLength(t *testing.T) {
	all := row(most, 10)
	for n := 0; n <= most; n += 1 + n/50 {
		f := libFrame(3, all[:n])
		judged(t, "a frame", f, told{3, string(all[:n]), 20 + n, api.OK})
		f[len(f)-1] ^= 128
		judged(t, "a frame with another sum", f, refused(api.ErrSum))
	}
}

// P8.3: frames are read one behind the other by how long they are.
func TestReadOfARowOfFrames(t *testing.T) {
	var all []byte
	for i := range 50 {
		all = append(all, put(t, uint64(i+1), row(7*i, i))...)
	}
	for i := range 50 {
		got := read(t, all)
		if want := (told{uint64(i + 1), string(row(7*i, i)), 20 + 7*i, api.OK}); got != want {
			t.Fatalf("frame %d: %d, %d bytes, %d, error %d", i, got.seq, len(got.text), got.n, got.e)
		}
		all = all[got.n:]
	}
	judged(t, "nothing more", all, refused(api.ErrShort))
}

// P8.4: each beginning of a frame is short.
func TestReadOfBeginnings(t *testing.T) {
	for _, n := range lengths {
		f := put(t, 1<<40+5, row(n, 11))
		for k := range f {
			// Once with the frame's rest in the room behind the length, where it plays no part, and once without it.
			if got := read(t, f[:k]); got != refused(api.ErrShort) {
				t.Fatalf("the first %d of %d bytes: error %d", k, len(f), got.e)
			}
			if got := read(t, slices.Clip(f[:k])); got != refused(api.ErrShort) {
				t.Fatalf("the first %d of %d bytes, with no room behind: error %d", k, len(f), got.e)
			}
		}
	}
}

// P8.3: a head whose sum is another one, whatever it says.
func TestReadOfAWrongHeadSum(t *testing.T) {
	for _, said := range []uint32{0, 5, most, most + 1, math.MaxUint32} {
		for _, seq := range []uint64{0, 1, math.MaxUint64} {
			b := slices.Concat(libHead(said, seq), libSummed(row(5, 12)))
			for i := range 16 {
				for _, by := range []byte{1, 128, 255} {
					wrong := bytes.Clone(b)
					wrong[i] ^= by
					judged(t, "a head with a byte changed", wrong, refused(api.ErrSum))
					judged(t, "such a head alone", wrong[:16], refused(api.ErrSum))
				}
			}
			reversed := bytes.Clone(b)
			slices.Reverse(reversed[12:16])
			if !bytes.Equal(reversed, b) {
				judged(t, "a head's sum, the highest byte first", reversed, refused(api.ErrSum))
			}
			turned := bytes.Clone(b)
			for i := 12; i < 16; i++ {
				turned[i] = ^turned[i]
			}
			judged(t, "a head's sum, not turned about", turned, refused(api.ErrSum))
		}
	}
}

// P8.3: the number 0, with a right sum.
func TestReadOfTheNumber0(t *testing.T) {
	for _, n := range []int{0, 1, 100, most} {
		f := libFrame(0, row(n, 13))
		judged(t, "the number 0", f, refused(api.ErrForm))
		judged(t, "the number 0, its text cut", f[:16], refused(api.ErrForm))
		f[len(f)-1]++
		judged(t, "the number 0, a wrong sum", f, refused(api.ErrForm))
	}
	judged(t, "the number 0, too long", slices.Concat(libHead(math.MaxUint32, 0), row(50, 14)), refused(api.ErrForm))
}

// P8.3: more bytes said than a frame may have, with as many behind and with fewer.
func TestReadOfTooManyBytesSaid(t *testing.T) {
	for _, said := range []uint32{most + 1, most + 2, 1<<15 - 1, 1 << 15, 1 << 16, 1<<16 + 1, 1 << 24, 1<<31 - 1, 1 << 31, 1<<31 + 5, math.MaxUint32 - 19, math.MaxUint32 - 4, math.MaxUint32 - 3, math.MaxUint32 - 1, math.MaxUint32} {
		for _, seq := range numbers {
			for _, n := range []int{0, 4, 5, 100} {
				judged(t, "too many bytes said", slices.Concat(libHead(said, seq), row(n, 15)), refused(api.ErrBig))
			}
		}
		if said <= 1<<16+1 {
			judged(t, "too many bytes that stand there", libFrame(4, row(int(said), 16)), refused(api.ErrBig))
		}
	}
}

// P8.3: fewer bytes behind a head than are said, and four.
func TestReadOfTooFewBytesBehind(t *testing.T) {
	for _, n := range []int{0, 1, 3, 4, 5, 12, 64, 1000, most} {
		text := row(n, 17)
		f := libFrame(6, text)
		wrong := bytes.Clone(f)
		wrong[len(wrong)-1]++
		for _, fewer := range []int{1, 2, 3, 4, 5, n + 3, n + 4} {
			if fewer <= n+4 {
				judged(t, "fewer bytes than said", f[:len(f)-fewer], refused(api.ErrShort))
				judged(t, "fewer bytes than said, and a byte changed", wrong[:len(f)-fewer], refused(api.ErrShort))
			}
		}
		judged(t, "as many as said", f, told{6, string(text), 20 + n, api.OK})
	}
}

// P8.3: a text whose sum is another one.
func TestReadOfAWrongTextSum(t *testing.T) {
	for _, n := range []int{0, 1, 4, 33, 200} {
		f := libFrame(8, row(n, 18))
		for i := 16; i < len(f); i++ {
			for by := 1; by < 256; by++ {
				f[i] ^= byte(by)
				judged(t, "a text with a byte changed", f, refused(api.ErrSum))
				judged(t, "such a text with something behind", append(bytes.Clone(f), row(30, 19)...), refused(api.ErrSum))
				f[i] ^= byte(by)
			}
		}
		reversed := bytes.Clone(f)
		slices.Reverse(reversed[16+n:])
		if !bytes.Equal(reversed, f) {
			judged(t, "a text's sum, the highest byte first", reversed, refused(api.ErrSum))
		}
		for i := 16 + n; i < len(f); i++ {
			f[i] = ^f[i]
		}
		judged(t, "a text's sum, not turned about", f, refused(api.ErrSum))
	}
}

// P8.3: several faults at once: the first that the chapter names is told.
func TestReadOfSeveralFaults(t *testing.T) {
	for faults := range 1 << 5 {
		headSum, zero, big, short, textSum := faults&1 > 0, faults&2 > 0, faults&4 > 0, faults&8 > 0, faults&16 > 0
		seq, n, want := uint64(21), 30, api.OK
		if zero {
			seq = 0
		}
		if big {
			n = most + 1
		}
		f := libFrame(seq, row(n, 20))
		if headSum {
			f[15] ^= 4
		}
		if textSum {
			f[20] ^= 4
		}
		if short {
			f = f[:len(f)-1]
		}
		switch {
		case headSum:
			want = api.ErrSum
		case zero:
			want = api.ErrForm
		case big:
			want = api.ErrBig
		case short:
			want = api.ErrShort
		case textSum:
			want = api.ErrSum
		}
		if got := read(t, f); got.e != want || libRead(f).e != want {
			t.Errorf("head's sum %v, number 0 %v, too many %v, too few behind %v, text's sum %v: error %d, not %d", headSum, zero, big, short, textSum, got.e, want)
		}
		judged(t, "the same, fewer than 16 bytes of it", f[:15], refused(api.ErrShort))
	}
}

// P8.3: heads and rests of all kinds, put together by chance.
func TestReadOfChance(t *testing.T) {
	r := rand.New(rand.NewSource(8))
	ends := map[api.Errno]int{}
	for range 30000 {
		n := r.Intn(20)
		text := row(n, r.Intn(9))
		said := uint32(n + []int{0, 0, 0, 0, -1, 1, 5, most, 1 << 30}[r.Intn(9)])
		b := slices.Concat(libHead(said, uint64(r.Intn(4))), libSummed(text), row(r.Intn(6), 21))
		if r.Intn(3) == 0 {
			b[r.Intn(len(b))] ^= byte(r.Intn(256))
		}
		if r.Intn(4) == 0 {
			b = b[:r.Intn(len(b)+1)]
		}
		got := read(t, b)
		if want := libRead(b); got != want {
			t.Fatalf("% x: %d, %q, %d, error %d; not %d, %q, %d, error %d", b, got.seq, got.text, got.n, got.e, want.seq, want.text, want.n, want.e)
		}
		ends[got.e]++
	}
	if len(ends) != 5 {
		t.Errorf("not all ends were met: %v", ends)
	}
}

// P8.4: what is read, put again, is the bytes.
func TestPutAgain(t *testing.T) {
	for _, seq := range numbers {
		for _, n := range lengths {
			b := slices.Concat(libFrame(seq, row(n, 22)), row(9, 23))
			got := read(t, b)
			if got.e != api.OK {
				t.Fatalf("%d, %d bytes: error %d", seq, n, got.e)
			}
			if again := put(t, got.seq, []byte(got.text)); !bytes.Equal(again, b[:got.n]) {
				t.Errorf("%d, %d bytes: put again, other bytes", seq, n)
			}
		}
	}
}

// P8.4: a frame in a frame in a frame.
func TestFramesInFrames(t *testing.T) {
	text := []byte("inmost")
	for seq := uint64(1); seq < 300; seq++ {
		text = put(t, seq, text)
	}
	for seq := uint64(299); seq > 0; seq-- {
		got := read(t, text)
		if got.seq != seq || got.n != len(text) || got.e != api.OK {
			t.Fatalf("frame %d: %d, %d, error %d", seq, got.seq, got.n, got.e)
		}
		text = []byte(got.text)
	}
	if string(text) != "inmost" {
		t.Errorf("%q", text)
	}
}

// turn turns about those of the bits from a place on that are set in by: the lowest bit of a byte is its first.
func turn(b []byte, from int, by uint64) {
	for i := range bits.Len64(by) {
		if by>>i&1 == 1 {
			b[(from+i)/8] ^= 1 << ((from + i) % 8)
		}
	}
}

// notRead looks whether a frame with bits turned is not read.
func notRead(t *testing.T, f []byte, from int, by uint64) {
	t.Helper()
	turn(f, from, by)
	if got := read(t, f); got.e == api.OK {
		t.Fatalf("a text of %d bytes, from bit %d on %b turned: read as %d, %x, %d", len(f)-20, from, by, got.seq, got.text, got.n)
	}
	turn(f, from, by)
}

// shortFrames answers frames that are so short that all their rows of bits may be tried, with texts of 0 to 4 bytes, so that a row goes over several borders at once, and a longer one.
func shortFrames(t *testing.T) [][]byte {
	return [][]byte{
		put(t, 1, nil),
		put(t, math.MaxUint64, nil),
		put(t, 5, []byte{0}),
		put(t, 6, []byte{255, 0, 255}),
		put(t, 1<<63, []byte("abcd")),
		put(t, 0x0102030405060708, row(17, 24)),
	}
}

// P8.4: each single bit turned.
func TestEachBitTurned(t *testing.T) {
	for _, f := range shortFrames(t) {
		for i := range 8 * len(f) {
			notRead(t, f, i, 1)
		}
	}
	f := put(t, 12, row(most, 25))
	for i := 0; i < 8*len(f); i += 1 + i/9 {
		notRead(t, f, i, 1)
	}
	for i := range 64 {
		notRead(t, f, 8*len(f)-1-i, 1)
	}
}

// P8.4: each row of at most 9 bits turned in each way, and rows of up to 32 bits in many.
func TestEachRowOfBitsTurned(t *testing.T) {
	r := rand.New(rand.NewSource(9))
	for _, f := range shortFrames(t) {
		last := 8 * len(f)
		for from := range last {
			for by := uint64(1); by < 1<<9 && from+bits.Len64(by) <= last; by += 2 {
				notRead(t, f, from, by)
			}
			for width := 10; width <= 32 && from+width <= last; width++ {
				ends := uint64(1) | 1<<(width-1)
				inner := uint64(1)<<width - 1
				for _, by := range []uint64{ends, inner, ends | r.Uint64()&inner, ends | r.Uint64()&inner, ends | r.Uint64()&r.Uint64()&inner} {
					notRead(t, f, from, by)
				}
			}
		}
	}
}

// P8.4: rows of bits turned in a frame that has others behind it, and in a long one.
func TestRowsOfBitsTurnedElsewhere(t *testing.T) {
	r := rand.New(rand.NewSource(10))
	f := put(t, 31, row(21, 26))
	all := slices.Concat(f, put(t, 32, nil), put(t, 33, row(100, 27)))
	for range 20000 {
		width := 1 + r.Intn(32)
		notRead(t, all, r.Intn(8*len(f)-width+1), 1|r.Uint64()&(1<<width-1))
	}
	long := put(t, 34, row(most, 28))
	for range 300 {
		notRead(t, long, r.Intn(8*len(long)-31), 1|r.Uint64()&(1<<32-1))
	}
}

// independent tells whether no row of these, but none of them at all, gives 0, exclusive-ored with one another.
func independent(rows []uint32) bool {
	var by [32]uint32
	for _, x := range rows {
		for x != 0 && by[bits.Len32(x)-1] != 0 {
			x ^= by[bits.Len32(x)-1]
		}
		if x == 0 {
			return false
		}
		by[bits.Len32(x)-1] = x
	}
	return true
}

// P8.4: each bit of bytes, turned, changes their sum by some bits, whatever the other bytes are, and each bit of the sum behind them by itself. Of each 32 such changes in a row no choice takes itself back: so whichever of the 32 bits are turned, the sum is not the one that stands there.
func TestNoChoiceOf32BitsIsLost(t *testing.T) {
	for _, n := range []int{0, 1, 4, 12, 60, 300} {
		b := make([]byte, n)
		whole := frame.Sum(b)
		var apart []uint32
		for i := range 8 * n {
			turn(b, i, 1)
			apart = append(apart, frame.Sum(b)^whole)
			turn(b, i, 1)
		}
		for i := range 32 {
			apart = append(apart, 1<<i)
		}
		for i := range len(apart) - 31 {
			if !independent(apart[i : i+32]) {
				t.Errorf("%d bytes: of the bits from %d on some are turned and not seen", n, i)
			}
		}
	}
}

// P8.1, P8.2, P8.3 (R3): neither what is handed in nor the memory behind it is changed.
func TestWhatIsHandedInStays(t *testing.T) {
	for _, n := range []int{0, 1, 4, 16, 64, 300, most, most + 1} {
		text, whole := roomy(row(n, 29))
		kept := bytes.Clone(whole)
		frame.Sum(text)
		frame.Put(5, text)
		frame.Put(0, text)
		frame.Read(text)
		if !bytes.Equal(whole, kept) {
			t.Errorf("%d bytes: what was handed in was changed", n)
		}
	}
	good := libFrame(7, row(30, 30))
	wrong := bytes.Clone(good)
	wrong[20]++
	for _, b := range [][]byte{good, wrong, good[:40], good[:16], good[:10], libFrame(0, nil), libHead(most+1, 1), make([]byte, 20)} {
		part, whole := roomy(b)
		kept := bytes.Clone(whole)
		frame.Read(part)
		frame.Read(whole)
		if !bytes.Equal(whole, kept) {
			t.Errorf("Read changed % x", b)
		}
	}
}

// P8.2 (R3, R4): what Put answers is nobody else's, and hangs no more on what was handed in.
func TestPutAnswersNewMemory(t *testing.T) {
	for _, n := range []int{0, 1, 20, 200, most} {
		text, whole := roomy(row(n, 31))
		kept, want := bytes.Clone(whole), libFrame(41, row(n, 31))
		first, second := put(t, 41, text), put(t, 41, text)
		clear(first[:cap(first)])
		if !bytes.Equal(whole, kept) || !bytes.Equal(second, want) {
			t.Errorf("%d bytes: a frame shares memory with its text or with another frame", n)
		}
		third := put(t, 41, text)
		clear(whole)
		if !bytes.Equal(second, want) || !bytes.Equal(third, want) {
			t.Errorf("%d bytes: a frame hangs on its text still", n)
		}
	}
}

// P8.3 (R3, R4): what Read answers is nobody else's, and hangs no more on what was handed in.
func TestReadAnswersNewMemory(t *testing.T) {
	for _, n := range []int{0, 1, 20, 200, most} {
		b, whole := roomy(libFrame(42, row(n, 32)))
		kept, want := bytes.Clone(whole), row(n, 32)
		_, first, _, _ := frame.Read(b)
		_, second, _, _ := frame.Read(b)
		clear(first[:cap(first)])
		if !bytes.Equal(whole, kept) || !bytes.Equal(second, want) {
			t.Errorf("%d bytes: a text shares memory with its frame or with another text", n)
		}
		_, third, _, _ := frame.Read(b)
		clear(whole)
		if !bytes.Equal(second, want) || !bytes.Equal(third, want) {
			t.Errorf("%d bytes: a text hangs on its frame still", n)
		}
	}
}

// R2, R3: with an error no piece of what was handed in is answered, not even one of no length.
func TestRefusalsShareNothing(t *testing.T) {
	wrong := libFrame(43, row(30, 33))
	wrong[25]++
	for _, b := range [][]byte{wrong, wrong[:30], wrong[:9], libFrame(0, row(9, 34)), libHead(most+9, 3)} {
		if _, text, _, e := frame.Read(b); e == api.OK || cap(text) != 0 {
			t.Errorf("% x: room for %d bytes beside error %d", b, cap(text), e)
		}
	}
	for _, seq := range []uint64{0, 1} {
		if f, e := frame.Put(seq, row(most+1, 35)); e == api.OK || cap(f) != 0 {
			t.Errorf("Put(%d, too much): room for %d bytes beside error %d", seq, cap(f), e)
		}
	}
}

// R4: what is answered hangs on the arguments alone: not on the calls ahead.
func TestCallsKnowNothingOfOneAnother(t *testing.T) {
	want := libFrame(44, row(50, 36))
	for _, ahead := range []func(){
		func() {},
		func() { frame.Sum(row(500, 37)) },
		func() { frame.Put(0, nil) },
		func() { frame.Put(9, row(most+1, 38)) },
		func() { frame.Put(9, row(most, 38)) },
		func() { frame.Read(make([]byte, 20)) },
		func() { frame.Read(want) },
		func() { frame.Read(want[:30]) },
	} {
		ahead()
		if got := put(t, 44, row(50, 36)); !bytes.Equal(got, want) {
			t.Errorf("Put: % x, not % x", got, want)
		}
		ahead()
		judged(t, "a frame", want, told{44, string(row(50, 36)), 70, api.OK})
		ahead()
		sumIs(t, row(50, 36))
	}
}
