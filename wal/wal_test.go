package wal_test

import (
	"bytes"
	"encoding/binary"
	"hash/crc32"
	"math/rand"
	"slices"
	"strings"
	"testing"

	"inquest/api"
	"inquest/disk"
	"inquest/wal"
)

const (
	wide    = 64      // bytes of a sector, as the chapters say it
	most    = 1 << 14 // bytes of a text
	sectors = 4096    // the most that a disk has
)

// framed answers the frame of a text, as chapter 8 says it.
func framed(number int, text string) string {
	b := binary.BigEndian.AppendUint32(nil, uint32(len(text)))
	b = binary.BigEndian.AppendUint64(b, uint64(number))
	b = binary.LittleEndian.AppendUint32(b, crc32.ChecksumIEEE(b))
	b = append(b, text...)
	return string(binary.LittleEndian.AppendUint32(b, crc32.ChecksumIEEE([]byte(text))))
}

// unframed answers the text of the frame of that number with which a disk's bytes begin.
func unframed(number int, bytes string) (string, bool) {
	n := int(binary.BigEndian.Uint32([]byte(bytes)))
	if n > most || n+20 > len(bytes) {
		return "", false
	}
	text := bytes[16 : 16+n]
	return text, strings.HasPrefix(bytes, framed(number, text))
}

func noughts(n int) string { return strings.Repeat("\x00", n) }

// padded answers bytes with noughts behind them, up to a sector's end.
func padded(s string) string { return s + noughts((wide-len(s)%wide)%wide) }

// lie answers the sectors of a log of texts.
func lie(texts ...string) string {
	var s strings.Builder
	for k, text := range texts {
		s.WriteString(padded(framed(k+1, text)))
	}
	return s.String()
}

// on answers bytes with noughts behind them, up to so many sectors.
func on(sectors int, s string) string { return s + noughts(sectors*wide-len(s)) }

// step is a step of a disk: a Write of a whole sector, or a Sync (at -1).
type step struct {
	at   int
	puts string
}

var sync = step{at: -1}

// appended answers the steps of an Append of which chapter 10 speaks.
func appended(texts []string, text string) []step {
	next := len(lie(texts...)) / wide
	var steps []step
	f := padded(framed(len(texts)+1, text))
	for k := 1; k < len(f)/wide; k++ {
		steps = append(steps, step{next + k, f[k*wide : (k+1)*wide]})
	}
	if len(steps) > 0 {
		steps = append(steps, sync)
	}
	return append(steps, step{next, f[:wide]}, sync)
}

// opening answers what an Open reads and the steps that it does, as chapter 10 says it; false: that it is refused.
func opening(disk string) ([]string, []step, bool) {
	var texts []string
	for end := len(lie(texts...)); end < len(disk) && disk[end:end+wide] != noughts(wide); end = len(lie(texts...)) {
		text, ok := unframed(len(texts)+1, disk[end:])
		if !ok {
			return nil, nil, false
		}
		texts = append(texts, text)
	}
	var steps []step
	for at := len(disk) - wide; at >= len(lie(texts...)); at -= wide {
		if disk[at:at+wide] != noughts(wide) {
			steps = append(steps, step{at / wide, noughts(wide)})
		}
	}
	if len(steps) > 0 {
		steps = append(steps, sync)
	}
	return texts, steps, true
}

// done answers a disk's bytes behind steps and a crash, and how many writes were open ahead of that.
func done(disk string, steps []step, keep []bool) (string, int) {
	b, open := []byte(disk), 0
	for k, s := range steps {
		if s == sync {
			open = 0
			continue
		}
		fast := slices.Contains(steps[k:], sync)
		if fast || open < len(keep) && keep[open] {
			copy(b[s.at*wide:], s.puts)
		}
		open++
	}
	return string(b), open
}

// choices goes through lists of n bools: all of them, if they are few.
func choices(n int, do func(keep []bool)) {
	if n > 5 {
		last := make([]bool, n)
		last[n-1] = true
		do(nil)
		do(slices.Repeat([]bool{true}, n))
		do(last)
		return
	}
	for set := range 1 << n {
		keep := make([]bool, n)
		for k := range keep {
			keep[k] = set>>k&1 == 1
		}
		do(keep)
	}
}

// must ends the test at an error.
func must(t *testing.T, e api.Errno) {
	t.Helper()
	if e != api.OK {
		t.Fatalf("error %d", e)
	}
}

// want holds an error against the one that is asked for.
func want(t *testing.T, what string, got, asked api.Errno) {
	t.Helper()
	if got != asked {
		t.Errorf("%s: error %d, not %d", what, got, asked)
	}
}

// laid answers a disk with these bytes, all of them fast.
func laid(t *testing.T, s string) *disk.Disk {
	t.Helper()
	d, e := disk.New(len(s) / wide)
	must(t, e)
	for at := range d.Sectors() {
		if b := s[at*wide : (at+1)*wide]; b != noughts(wide) {
			must(t, d.Write(at, []byte(b)))
		}
	}
	must(t, d.Sync())
	return d
}

// all answers a disk's bytes.
func all(t *testing.T, d *disk.Disk) string {
	t.Helper()
	var s strings.Builder
	for at := range d.Sectors() {
		b, e := d.Read(at)
		must(t, e)
		s.Write(b)
	}
	return s.String()
}

// opened answers the log that is on a disk.
func opened(t *testing.T, d *disk.Disk) *wal.Log {
	t.Helper()
	l, e := wal.Open(d)
	if l == nil || e != api.OK {
		t.Fatalf("Open: a log %t, error %d", l != nil, e)
	}
	return l
}

// texts answers the texts of a log.
func texts(l *wal.Log) []string {
	var all []string
	for _, b := range l.Texts() {
		all = append(all, string(b))
	}
	return all
}

// room answers the most bytes of a text whose frame, 20 bytes more, goes into so many sectors.
func room(sectors int) int { return max(min(sectors*wide-20, most), -1) }

// tells looks whether a log tells these texts, and what follows from them.
func tells(t *testing.T, l *wal.Log, on *disk.Disk, asked []string) {
	t.Helper()
	if got := texts(l); !slices.Equal(got, asked) {
		t.Fatalf("%d texts: %.200q, not %d: %.200q", len(got), got, len(asked), asked)
	}
	next := len(lie(asked...)) / wide
	if l.Next() != next || l.Room() != room(on.Sectors()-next) {
		t.Fatalf("next %d, room %d, not %d and %d", l.Next(), l.Room(), next, room(on.Sectors()-next))
	}
}

// tried does something on disks of these bytes, with the power going off at each of its steps, and with each choice of what is kept then.
func tried(t *testing.T, s string, steps []step, do func(d *disk.Disk) api.Errno) {
	t.Helper()
	for k := range len(steps) + 1 {
		_, open := done(s, steps[:k], nil)
		choices(open, func(keep []bool) {
			d := laid(t, s)
			must(t, d.Arm(k))
			asked := api.OK
			if k < len(steps) {
				asked = api.ErrPower
			}
			if e := do(d); e != asked || d.Off() != (asked != api.OK) || d.Open() != open {
				t.Fatalf("%d of %d steps: error %d, off %t, %d open writes, not error %d and %d", k, len(steps), e, d.Off(), d.Open(), asked, open)
			}
			must(t, d.Crash(keep))
			if is, _ := done(s, steps[:k], keep); all(t, d) != is {
				t.Fatalf("%d of %d steps, kept %v: other bytes on the disk", k, len(steps), keep)
			}
		})
	}
}

// stepless does something on a disk with which the power would go off at its first step.
func stepless(t *testing.T, d *disk.Disk, do func()) {
	t.Helper()
	was := all(t, d)
	must(t, d.Arm(0))
	do()
	if d.Off() || d.Open() != 0 {
		t.Fatalf("a step was done: off %t, %d open writes", d.Off(), d.Open())
	}
	must(t, d.Crash(nil))
	if all(t, d) != was {
		t.Fatal("the disk is another one")
	}
}

// row answers n bytes, none of which is 0, another row for each seed.
func row(n, seed int) string {
	b := make([]byte, n)
	for i := range b {
		b[i] = byte(1 + (37*seed+i*i+i>>3)%255)
	}
	return string(b)
}

// forged answers a text that begins with front and ends with so many noughts, of the sum 0.
func forged(front string, n int) string {
	c := ^uint32(0)
	for range 8 * (4 + n) {
		if c>>31 == 1 {
			c = (c^0xedb88320)<<1 | 1
		} else {
			c <<= 1
		}
	}
	b := binary.LittleEndian.AppendUint32([]byte(front), c^^crc32.ChecksumIEEE([]byte(front)))
	return string(b) + noughts(n)
}

// The edges at which a frame takes one sector more.
var lengths = []int{0, 1, 43, 44, 45, 107, 108, 109, 171, 172, 173, most - 1, most}

// odd answers texts that are noughts, or have frames in them from a sector's beginning on.
func odd() []string {
	front := row(wide-16, 1)
	return []string{
		noughts(1), noughts(44), noughts(48), noughts(108), noughts(300),
		forged(row(44, 2), 60),     // its second sector is noughts alone
		forged(row(44, 3), 60+128), // and so are three of them
		front + noughts(64) + row(9, 4),
		framed(1, "a"), framed(2, "a"), framed(2, row(100, 5)), lie("a", "b"),
		front + padded(framed(2, "x")) + framed(3, "y"),
		front + padded(framed(1, "x")) + framed(2, row(90, 6)),
		front + padded(framed(3, "x")) + padded(framed(2, "")) + framed(4, "z"),
	}
}

// The chapter's examples.
func TestExamples(t *testing.T) {
	d := laid(t, on(2, ""))
	l := opened(t, d)
	text := row(44, 1)
	must(t, l.Append([]byte(text)))
	if l.Next() != 1 || l.Room() != 44 || all(t, d) != on(2, framed(1, text)) {
		t.Errorf("next %d, room %d", l.Next(), l.Room())
	}
	want(t, "45 bytes", l.Append([]byte(row(45, 1))), api.ErrFull)
	for bit := range wide * 8 {
		b := []byte(on(2, framed(1, text)))
		b[bit/8] ^= 1 << (bit % 8)
		l, e := wal.Open(laid(t, string(b)))
		if want(t, "Open of a bit turned", e, api.ErrSum); l != nil {
			t.Error("a log beside an error")
		}
	}
}

// P10.1: Open of what is no disk, and of one whose power is off.
func TestOpenRefused(t *testing.T) {
	for _, d := range []*disk.Disk{nil, {}, new(disk.Disk)} {
		if l, e := wal.Open(d); l != nil || e != api.ErrNil {
			t.Errorf("Open of no disk: a log %t, error %d", l != nil, e)
		}
	}
	left := on(3, "") + row(wide, 1)
	for _, s := range []string{on(1, ""), on(3, lie("a", "b")), left, row(2*wide, 2), on(2, framed(2, "a"))} {
		d := laid(t, s)
		must(t, d.Arm(0))
		want(t, "Sync", d.Sync(), api.ErrPower)
		if l, e := wal.Open(d); l != nil || e != api.ErrPower || !d.Off() {
			t.Errorf("Open without power: a log %t, error %d", l != nil, e)
		}
		must(t, d.Crash(nil))
		if all(t, d) != s {
			t.Error("Open without power wrote")
		}
	}
}

// P10.1, P10.3: a new disk has an empty log.
func TestOpenNew(t *testing.T) {
	for n, room := range map[int]int{1: 44, 2: 108, 3: 172, 256: 16364, 257: most, 258: most, sectors: most} {
		d := laid(t, on(n, ""))
		stepless(t, d, func() {
			l := opened(t, d)
			if len(l.Texts()) != 0 || l.Next() != 0 || l.Room() != room {
				t.Errorf("%d sectors: %d texts, next %d, room %d", n, len(l.Texts()), l.Next(), l.Room())
			}
		})
	}
}

// P10.1, P10.3: logs that end with their disk, and those that leave a sector.
func TestFullDisk(t *testing.T) {
	long := row(most, 3) // 257 sectors
	var longest, shortest []string
	for range sectors / 257 {
		longest = append(longest, long)
	}
	longest = append(longest, row(sectors%257*wide-20, 4))
	for k := range sectors {
		shortest = append(shortest, row(k%45, k))
	}
	for _, asked := range [][]string{{""}, {row(44, 1)}, {row(108, 1)}, {"a", "b", "c"}, {row(172, 1), row(45, 2), ""}, {long}, longest, shortest} {
		s := lie(asked...)
		d := laid(t, s)
		stepless(t, d, func() {
			l := opened(t, d)
			tells(t, l, d, asked)
			if l.Room() != -1 {
				t.Errorf("room %d of a full log", l.Room())
			}
			want(t, "Append of nothing", l.Append(nil), api.ErrFull)
			want(t, "Append of a byte", l.Append([]byte{1}), api.ErrFull)
			want(t, "Append of too much", l.Append(make([]byte, most+1)), api.ErrBig)
			tells(t, l, d, asked)
		})
		if len(s) == sectors*wide {
			continue
		}
		d = laid(t, s+noughts(wide))
		l := opened(t, d)
		must(t, l.Append([]byte(row(44, 7))))
		tells(t, l, d, append(slices.Clone(asked), row(44, 7)))
		if l.Room() != -1 || all(t, d) != lie(append(slices.Clone(asked), row(44, 7))...) {
			t.Errorf("room %d of a log that was filled", l.Room())
		}
	}
}

// P10.2, 10.1: the bytes on the disk behind an Append, alone and behind others.
func TestBytesOnDisk(t *testing.T) {
	for _, ahead := range [][]string{nil, {""}, {row(45, 1), row(3, 2)}} {
		for _, n := range lengths {
			size := len(lie(ahead...))/wide + 258
			d := laid(t, on(size, lie(ahead...)))
			l := opened(t, d)
			asked := append(slices.Clone(ahead), row(n, n))
			must(t, l.Append([]byte(row(n, n))))
			if all(t, d) != on(size, lie(asked...)) || d.Open() != 0 {
				t.Errorf("%d bytes behind %d texts: other bytes on the disk", n, len(ahead))
			}
			tells(t, l, d, asked)
			tells(t, opened(t, d), d, asked)
		}
	}
}

// P10.2: a text of one byte too many is ErrBig ahead of ErrFull; neither writes.
func TestAppendRefused(t *testing.T) {
	for size := 1; size <= 5; size++ {
		for _, asked := range [][]string{nil, {"a"}, {row(45, 1)}, {"", row(108, 1)}} {
			if len(lie(asked...)) > size*wide {
				continue
			}
			d := laid(t, on(size, lie(asked...)))
			l := opened(t, d)
			fits := l.Room()
			stepless(t, d, func() {
				for _, n := range []int{most + 1, most + 2, 1 << 20} {
					want(t, "too long", l.Append(make([]byte, n)), api.ErrBig)
				}
				for _, n := range []int{fits + 1, fits + 2, fits + 64, most} {
					want(t, "no room", l.Append(make([]byte, n)), api.ErrFull)
				}
				tells(t, l, d, asked)
			})
			if fits < 0 {
				continue
			}
			must(t, l.Append([]byte(row(fits, 2))))
			tells(t, l, d, append(slices.Clone(asked), row(fits, 2)))
		}
	}
}

// P10.2: ErrFull and ErrBig of the greatest texts.
func TestAppendRefusedGreat(t *testing.T) {
	for size, e := range map[int]api.Errno{256: api.ErrFull, 257: api.OK, 258: api.OK} {
		d := laid(t, on(size, ""))
		l := opened(t, d)
		want(t, "one byte more", l.Append(make([]byte, most+1)), api.ErrBig)
		want(t, "the greatest text", l.Append(make([]byte, most)), e)
		want(t, "one byte more", l.Append(make([]byte, most+1)), api.ErrBig)
	}
}

// P10.2: which steps an Append does, in which order, and what each crash leaves.
func TestAppendSteps(t *testing.T) {
	for _, ahead := range [][]string{nil, {"a"}, {row(45, 1), ""}} {
		var nexts []string
		for _, n := range []int{0, 1, 44, 45, 108, 109, 172, 173, 300} {
			nexts = append(nexts, row(n, n))
		}
		for _, text := range append(nexts, odd()...) {
			size := len(lie(append(slices.Clone(ahead), text)...))/wide + 1
			tried(t, on(size, lie(ahead...)), appended(ahead, text), func(d *disk.Disk) api.Errno {
				l := opened(t, d)
				e := l.Append([]byte(text))
				if e != api.OK {
					tells(t, l, d, ahead)
				}
				return e
			})
		}
	}
}

// P10.2: the same of the greatest text, which goes up to the disk's end.
func TestAppendStepsGreat(t *testing.T) {
	text := row(most, 1)
	steps := appended(nil, text)
	if len(steps) != 259 {
		t.Fatalf("%d steps", len(steps))
	}
	tried(t, on(257, ""), steps, func(d *disk.Disk) api.Errno {
		return opened(t, d).Append([]byte(text))
	})
}

// P10.3: what is told behind each Append, and when the log is opened anew.
func TestTold(t *testing.T) {
	d := laid(t, on(700, ""))
	l := opened(t, d)
	var asked []string
	for k, n := range append(slices.Clone(lengths), 0, 0, 700, 1) {
		if n > l.Room() {
			want(t, "no room", l.Append([]byte(row(n, k))), api.ErrFull)
			continue
		}
		must(t, l.Append([]byte(row(n, k))))
		asked = append(asked, row(n, k))
		tells(t, l, d, asked)
		tells(t, l, d, asked)
		tells(t, opened(t, d), d, asked)
	}
	for _, text := range odd() {
		must(t, l.Append([]byte(text)))
		asked = append(asked, text)
		tells(t, l, d, asked)
		tells(t, opened(t, d), d, asked)
	}
	if all(t, d) != on(700, lie(asked...)) {
		t.Error("other bytes on the disk")
	}
}

// refused looks whether Open answers ErrSum, and nothing is written.
func refused(t *testing.T, what, s string) {
	t.Helper()
	d := laid(t, s)
	stepless(t, d, func() {
		if l, e := wal.Open(d); l != nil || e != api.ErrSum {
			t.Errorf("%s: a log %t, error %d", what, l != nil, e)
		}
	})
}

// P10.1: a bit turned anywhere in a frame.
func TestBitTurned(t *testing.T) {
	for _, asked := range [][]string{{""}, {"a", row(44, 1)}, {row(45, 2), noughts(44), row(110, 3)}} {
		for behind := range 2 {
			s := on(len(lie(asked...))/wide+behind*2, lie(asked...))
			at := 0
			for k, text := range asked {
				for bit := range len(framed(k+1, text)) * 8 {
					b := []byte(s)
					b[at+bit/8] ^= 1 << (bit % 8)
					refused(t, "a bit turned", string(b))
				}
				at += len(padded(framed(k+1, text)))
			}
		}
	}
}

// P10.1: what stands behind a frame in its last sector plays no part.
func TestBehindFrame(t *testing.T) {
	asked := []string{"a", row(50, 1)}
	for _, at := range []int{21, 40, 63, 64 + 70, 64 + 127} {
		b := []byte(on(4, lie(asked...)))
		b[at] = 1
		d := laid(t, string(b))
		stepless(t, d, func() { tells(t, opened(t, d), d, asked) })
	}
}

// summed answers a frame's first bytes, whatever they say, and a text with its sum.
func summed(length uint32, number uint64, text string) string {
	b := binary.BigEndian.AppendUint32(nil, length)
	b = binary.BigEndian.AppendUint64(b, number)
	b = binary.LittleEndian.AppendUint32(b, crc32.ChecksumIEEE(b))
	return string(b) + framed(1, text)[16:]
}

// P10.1: frames that are none, or of other numbers, and sectors that begin none.
func TestNoFrame(t *testing.T) {
	left := on(2, "") + row(wide, 9) // what a refusal must not wipe
	for _, ahead := range [][]string{nil, {"a"}, {"", row(45, 1)}} {
		next := uint64(len(ahead) + 1)
		for what, s := range map[string]string{
			"the number 0":               summed(1, 0, "b"),
			"the number ahead":           summed(1, next-1, "b"),
			"the number behind":          summed(1, next+1, "b"),
			"a number of five bytes":     summed(1, next+1<<32, "b"),
			"a number of eight bytes":    summed(1, next+1<<56, "b"),
			"one byte too many":          summed(2, next, "b"),
			"one byte too few":           summed(0, next, "b"),
			"more bytes than MaxFrame":   summed(most+1, next, row(most+1, 2)),
			"2^32-1 bytes":               summed(1<<32-1, next, "b"),
			"a byte":                     "\x01",
			"a byte at the end":          noughts(63) + "\x01",
			"a byte, and a frame":        padded("\x01") + framed(int(next), "b"),
			"a row":                      row(wide, 3),
			"a second sector":            framed(int(next), row(100, 4))[wide:],
			"a frame, not from its edge": noughts(1) + framed(int(next), "b"),
		} {
			s = padded(s)
			refused(t, what, lie(ahead...)+s)
			refused(t, what, lie(ahead...)+s+left)
		}
		for _, n := range []int{45, 109, 1000, most} {
			whole := padded(framed(int(next), row(n, 5)))
			refused(t, "a frame without its last sector", lie(ahead...)+whole[:len(whole)-wide])
			refused(t, "a frame whose last sector is noughts", lie(ahead...)+on(len(whole)/wide, whole[:len(whole)-wide]))
			refused(t, "a first sector alone", lie(ahead...)+on(len(whole)/wide+2, whole[:wide]))
		}
		if len(ahead) > 0 {
			refused(t, "the same log once more", lie(ahead...)+lie(ahead...))
		}
	}
}

// P10.1: what is behind the log's end is wiped, step by step.
func TestWiped(t *testing.T) {
	for _, asked := range [][]string{nil, {"a"}, {row(45, 1), ""}} {
		for set := range 1 << 5 {
			s := lie(asked...) + noughts(wide)
			for k := range 5 {
				if set>>k&1 == 1 {
					s += []string{row(wide, k), on(1, framed(len(asked)+2, "b")), noughts(63) + "\x01", on(1, "\x80"), on(1, framed(len(asked)+1, "b"))}[k]
				} else {
					s += noughts(wide)
				}
			}
			read, steps, ok := opening(s)
			if !ok || !slices.Equal(read, asked) {
				t.Fatal("the chapter's words are written wrongly")
			}
			tried(t, s, steps, func(d *disk.Disk) api.Errno {
				l, e := wal.Open(d)
				if (l == nil) != (e != api.OK) {
					t.Fatalf("a log %t, error %d", l != nil, e)
				}
				if e == api.OK {
					tells(t, l, d, asked)
				}
				return e
			})
		}
	}
}

// P10.1: a great disk is wiped wholly, the last sector of it first.
func TestWipedGreat(t *testing.T) {
	s := lie("a") + noughts(wide) + row((sectors-2)*wide, 1)
	_, steps, _ := opening(s)
	if len(steps) != sectors-1 {
		t.Fatalf("%d steps", len(steps))
	}
	for _, k := range []int{0, 1, 2, 3, 2000, len(steps) - 2, len(steps) - 1} {
		for _, kept := range []bool{false, true} {
			d := laid(t, s)
			must(t, d.Arm(k))
			_, e := wal.Open(d)
			want(t, "Open", e, api.ErrPower)
			keep := slices.Repeat([]bool{kept}, d.Open())
			must(t, d.Crash(keep))
			if is, _ := done(s, steps[:k], keep); all(t, d) != is {
				t.Errorf("%d steps, kept %t: other bytes on the disk", k, kept)
			}
		}
	}
	d := laid(t, s)
	must(t, d.Arm(len(steps)))
	tells(t, opened(t, d), d, []string{"a"})
	if all(t, d) != on(sectors, lie("a")) {
		t.Error("not all is wiped")
	}
}

// P10.1: all disks of three sectors out of some, held against the chapter's words.
func TestOpenAllDisks(t *testing.T) {
	two, three := framed(1, row(60, 1)), framed(2, row(120, 2))
	of := []string{
		"", "\x01", framed(1, ""), framed(2, "b"), framed(3, row(44, 3)), framed(4, "d"),
		two[:wide], two[wide:], three[:wide], three[wide : 2*wide], framed(2, row(50, 4))[:wide], framed(2, row(50, 4))[wide:],
	}
	took := map[int]int{}
	for set := range len(of) * len(of) * len(of) {
		s := ""
		for at := set; len(s) < 3*wide; at /= len(of) {
			s += on(1, of[at%len(of)])
		}
		asked, steps, ok := opening(s)
		if !ok {
			refused(t, "no log", s)
			continue
		}
		took[len(asked)]++
		tried(t, s, steps, func(d *disk.Disk) api.Errno {
			l, e := wal.Open(d)
			if e == api.OK {
				tells(t, l, d, asked)
			}
			return e
		})
	}
	if took[0] == 0 || took[1] == 0 || took[2] == 0 || took[3] == 0 {
		t.Errorf("logs of so many texts: %v", took)
	}
}

// life is what is done between two crashes: the log is opened, texts are appended, and the power goes off at a step.
type life struct {
	texts []string
	arm   int
}

// lived does a life on a disk of these bytes. It answers the disk, what was told OK, the text that was under way (or none), and whether a step was missing.
func lived(t *testing.T, s string, x life) (*disk.Disk, []string, []string, bool) {
	t.Helper()
	d := laid(t, s)
	told, _, ok := opening(s)
	if !ok {
		t.Fatal("a crash led to a disk that is refused")
	}
	must(t, d.Arm(x.arm))
	l, e := wal.Open(d)
	if e != api.OK {
		want(t, "Open", e, api.ErrPower)
		return d, told, nil, true
	}
	tells(t, l, d, told)
	for _, text := range x.texts {
		e := l.Append([]byte(text))
		if e == api.ErrFull {
			continue
		}
		if e != api.OK {
			want(t, "Append", e, api.ErrPower)
			tells(t, l, d, told)
			return d, told, []string{text}, true
		}
		told = append(told, text)
	}
	return d, told, nil, false
}

// survived looks whether Open is OK behind a crash, has what was told OK, perhaps what was under way, and no others, and whether it is the same when it is opened again.
func survived(t *testing.T, d *disk.Disk, told, under []string) {
	t.Helper()
	l := opened(t, d)
	asked := told
	if len(l.Texts()) > len(told) {
		asked = append(slices.Clone(told), under...)
	}
	tells(t, l, d, asked)
	stepless(t, d, func() { tells(t, opened(t, d), d, asked) })
}

// P10.4: all rows of some lives, each choice of what a crash keeps, as often as there are new disks.
func TestCrashes(t *testing.T) {
	front := row(wide-16, 1)
	of := []string{"", noughts(45), front + padded(framed(2, "x")) + framed(3, "y"), front + framed(1, "z"), forged(row(44, 2), 60)}
	var plans [][]string
	for _, a := range of {
		for _, b := range of {
			plans = append(plans, []string{a, b})
		}
	}
	first := on(6, "")
	seen := map[string]bool{first: true}
	for work := []string{first}; len(work) > 0; work = work[1:] {
		for _, plan := range plans {
			for arm, more := 0, true; more; arm++ {
				d, told, under, missing := lived(t, work[0], life{plan, arm})
				more = missing
				choices(d.Open(), func(keep []bool) {
					d, _, _, _ := lived(t, work[0], life{plan, arm})
					must(t, d.Crash(keep))
					s := all(t, d)
					survived(t, d, told, under)
					if !seen[s] {
						seen[s] = true
						work = append(work, s)
					}
				})
			}
		}
	}
	if len(seen) < 300 {
		t.Errorf("%d disks", len(seen))
	}
}

// P10.4: long rows of lives by chance, on greater disks and with greater texts.
func TestCrashesByChance(t *testing.T) {
	by := rand.New(rand.NewSource(1))
	odd := odd()
	for range 60 {
		size := 1 + by.Intn(60)
		s := on(size, "")
		for range 25 {
			x := life{arm: by.Intn(40)}
			for range by.Intn(4) {
				text := row(by.Intn(1+by.Intn(400)), by.Int()&0xffff)
				if by.Intn(3) == 0 {
					text = odd[by.Intn(len(odd))]
				}
				x.texts = append(x.texts, text)
			}
			d, told, under, _ := lived(t, s, x)
			keep := make([]bool, by.Intn(1+d.Open()))
			for k := range keep {
				keep[k] = by.Intn(2) == 0
			}
			must(t, d.Crash(keep))
			s = all(t, d)
			survived(t, d, told, under)
			if by.Intn(2) == 0 {
				s = all(t, d)
			}
		}
	}
}

// P10.2: behind an error of the disk a log answers ErrPower, whatever the power is, till it is opened anew.
func TestFailed(t *testing.T) {
	ahead := []string{"a", row(50, 1)}
	for _, text := range []string{"", row(45, 2), row(200, 3)} {
		steps := appended(ahead, text)
		for k := range steps {
			d := laid(t, on(9, lie(ahead...)))
			l := opened(t, d)
			must(t, d.Arm(k))
			want(t, "Append", l.Append([]byte(text)), api.ErrPower)
			for range 3 {
				want(t, "Append without power", l.Append([]byte("b")), api.ErrPower)
				tells(t, l, d, ahead)
			}
			must(t, d.Crash(nil))
			stepless(t, d, func() {
				for _, n := range []int{0, 1, 45, 100} {
					want(t, "Append with power", l.Append([]byte(row(n, 4))), api.ErrPower)
				}
				// R2: what the chapter names first.
				want(t, "Append of too much", l.Append(make([]byte, most+1)), api.ErrBig)
				want(t, "Append without room", l.Append(make([]byte, most)), api.ErrFull)
				tells(t, l, d, ahead)
			})
			want(t, "Append with power", l.Append(nil), api.ErrPower)
			anew := opened(t, d)
			tells(t, anew, d, ahead)
			must(t, anew.Append([]byte(text)))
			tells(t, anew, d, append(slices.Clone(ahead), text))
		}
	}
}

// P10.2, P10.3: the power that goes off by another one's step.
func TestPowerOff(t *testing.T) {
	d := laid(t, on(5, lie("a")))
	l := opened(t, d)
	must(t, d.Arm(0))
	want(t, "Sync", d.Sync(), api.ErrPower)
	tells(t, l, d, []string{"a"})
	want(t, "Append of too much", l.Append(make([]byte, most+1)), api.ErrBig)
	want(t, "Append without room", l.Append(make([]byte, 5*wide)), api.ErrFull)
	must(t, d.Crash(nil))
	must(t, l.Append([]byte("b"))) // no error of the disk was told, so there is nothing to be opened anew for
	tells(t, l, d, []string{"a", "b"})
	must(t, d.Arm(0))
	want(t, "Sync", d.Sync(), api.ErrPower)
	want(t, "Append", l.Append([]byte("c")), api.ErrPower)
	must(t, d.Crash(nil))
	want(t, "Append", l.Append([]byte("c")), api.ErrPower)
	tells(t, l, d, []string{"a", "b"})
	tells(t, opened(t, d), d, []string{"a", "b"})
}

// R1: logs that Open did not make.
func TestNoLog(t *testing.T) {
	for _, l := range []*wal.Log{nil, {}, new(wal.Log)} {
		for range 2 {
			for _, n := range []int{0, 1, most, most + 1} {
				want(t, "Append", l.Append(make([]byte, n)), api.ErrNil)
			}
			if len(l.Texts()) != 0 || l.Next() != 0 || l.Room() != -1 {
				t.Errorf("%d texts, next %d, room %d", len(l.Texts()), l.Next(), l.Room())
			}
		}
	}
}

// R3: what is handed in is neither changed nor kept.
func TestHandedIn(t *testing.T) {
	for _, n := range []int{0, 1, 44, 45, 200, most} {
		for _, arm := range []int{0, 1, 2, 1000} {
			d := laid(t, on(300, ""))
			l := opened(t, d)
			whole := []byte(row(n+200, n))
			part := whole[:n]
			must(t, d.Arm(arm))
			e := l.Append(part)
			if string(whole) != row(n+200, n) {
				t.Fatal("Append changed what it was handed")
			}
			for k := range whole {
				whole[k]++
			}
			must(t, d.Crash(nil))
			if e != api.OK {
				tells(t, l, d, nil)
				continue
			}
			tells(t, l, d, []string{row(n, n)})
			tells(t, opened(t, d), d, []string{row(n, n)})
		}
	}
	empty := opened(t, laid(t, on(2, "")))
	must(t, empty.Append(nil))
	must(t, empty.Append([]byte{}))
	if got := texts(empty); !slices.Equal(got, []string{"", ""}) {
		t.Errorf("nothing, twice: %q", got)
	}
}

// R3: what Texts answers is nobody else's.
func TestTextsAreNew(t *testing.T) {
	asked := []string{"a", row(45, 1), "", row(9, 2)}
	d := laid(t, on(20, lie(asked...)))
	l := opened(t, d)
	for range 2 {
		was := l.Texts()
		got := l.Texts()
		for k, b := range got {
			for i := range b {
				b[i]++
			}
			got[k] = append(b, 1, 2, 3)
		}
		got = append(got[:1], []byte("other"), nil, nil, nil)
		for k, b := range was {
			if !bytes.Equal(b, []byte(asked[k])) {
				t.Error("two answers share memory")
			}
			_ = append(b, 7, 7, 7, 7)
		}
		tells(t, l, d, asked)
		must(t, l.Append([]byte("more")))
		asked = append(asked, "more")
		tells(t, l, d, asked)
		tells(t, opened(t, d), d, asked)
		if len(was) != len(asked)-1 || string(got[1]) != "other" {
			t.Error("an Append changed an answer")
		}
	}
	if all(t, d) != on(20, lie(asked...)) {
		t.Error("what was answered is the disk's")
	}
}

// R4: two logs on two disks know nothing of one another.
func TestTwoLogs(t *testing.T) {
	var disks [2]*disk.Disk
	var logs [2]*wal.Log
	var asked [2][]string
	for k := range disks {
		disks[k] = laid(t, on(40, ""))
		logs[k] = opened(t, disks[k])
	}
	for n := range 12 {
		k := n * n % 3 % 2
		text := row(n*9, n)
		must(t, logs[k].Append([]byte(text)))
		asked[k] = append(asked[k], text)
		for k := range disks {
			tells(t, logs[k], disks[k], asked[k])
			if all(t, disks[k]) != on(40, lie(asked[k]...)) {
				t.Fatal("other bytes on the disk")
			}
		}
	}
	must(t, disks[0].Arm(0))
	want(t, "Append", logs[0].Append(nil), api.ErrPower)
	stepless(t, disks[1], func() { tells(t, opened(t, disks[1]), disks[1], asked[1]) })
	must(t, logs[1].Append([]byte("a")))
	want(t, "Append", logs[0].Append(nil), api.ErrPower)
	tells(t, logs[0], disks[0], asked[0])
}
