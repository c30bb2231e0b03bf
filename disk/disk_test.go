package disk_test

import (
	"bytes"
	"math"
	"math/rand"
	"slices"
	"strings"
	"testing"

	"inquest/api"
	"inquest/disk"
)

const (
	wide = 64   // bytes of a sector, as the chapter says it
	most = 4096 // sectors of a disk
)

// aDisk is what can be done with a disk: the package's, or the chapter's.
type aDisk interface {
	Sectors() int
	Open() int
	Off() bool
	Arm(n int) api.Errno
	Read(at int) ([]byte, api.Errno)
	Write(at int, b []byte) api.Errno
	Sync() api.Errno
	Crash(keep []bool) api.Errno
}

// put is a write of the chapter's disk.
type put struct {
	at    int
	bytes string
}

// chapterDisk does what the chapter says by all writes there ever were, gone through anew for each question.
type chapterDisk struct {
	sectors int
	puts    []put
	fast    int // so many of the first puts are
	done    int // steps
	offAt   int // the step that is not done; -1: none
	off     bool
}

func newChapterDisk(sectors int) *chapterDisk { return &chapterDisk{sectors: sectors, offAt: -1} }

func (c *chapterDisk) Sectors() int { return c.sectors }
func (c *chapterDisk) Open() int    { return len(c.puts) - c.fast }
func (c *chapterDisk) Off() bool    { return c.off }

func (c *chapterDisk) Arm(n int) api.Errno {
	if c.off {
		return api.ErrPower
	}
	if n < 0 {
		return api.ErrArg
	}
	c.offAt = c.done + n
	return api.OK
}

func (c *chapterDisk) is(at int) string {
	bytes := strings.Repeat("\x00", wide)
	for _, p := range c.puts {
		if p.at == at {
			bytes = p.bytes
		}
	}
	return bytes
}

func (c *chapterDisk) Read(at int) ([]byte, api.Errno) {
	if c.off {
		return nil, api.ErrPower
	}
	if at < 0 || at >= c.sectors {
		return nil, api.ErrArg
	}
	return []byte(c.is(at)), api.OK
}

// step does a step, unless the power goes off with it.
func (c *chapterDisk) step(do func()) api.Errno {
	if c.off = c.done == c.offAt; c.off {
		return api.ErrPower
	}
	c.done++
	do()
	return api.OK
}

func (c *chapterDisk) Write(at int, b []byte) api.Errno {
	if c.off {
		return api.ErrPower
	}
	if at < 0 || at >= c.sectors || len(b) > wide {
		return api.ErrArg
	}
	return c.step(func() {
		c.puts = append(c.puts, put{at, padded(string(b))})
	})
}

func (c *chapterDisk) Sync() api.Errno {
	if c.off {
		return api.ErrPower
	}
	return c.step(func() { c.fast = len(c.puts) })
}

func (c *chapterDisk) Crash(keep []bool) api.Errno {
	var kept []put
	for i, p := range c.puts {
		k := i - c.fast
		if k < 0 || k < len(keep) && keep[k] {
			kept = append(kept, p)
		}
	}
	c.puts, c.fast, c.offAt, c.off = kept, len(kept), -1, false
	return api.OK
}

// padded answers a text with noughts behind it, up to a sector's bytes.
func padded(s string) string { return s + strings.Repeat("\x00", wide-len(s)) }

// row answers n bytes, none of which is 0, another row for each seed.
func row(n, seed int) []byte {
	b := make([]byte, n)
	for i := range b {
		b[i] = byte(1 + (37*seed+i*i+i>>3)%255)
	}
	return b
}

// made answers a new disk.
func made(t *testing.T, sectors int) *disk.Disk {
	t.Helper()
	d, e := disk.New(sectors)
	if d == nil || e != api.OK {
		t.Fatalf("New(%d): error %d", sectors, e)
	}
	return d
}

// must ends the test at an error.
func must(t *testing.T, e api.Errno) {
	t.Helper()
	if e != api.OK {
		t.Fatalf("error %d", e)
	}
}

// want holds an error against the one that is asked for.
func want(t *testing.T, what string, got, asked api.Errno) {
	t.Helper()
	if got != asked {
		t.Errorf("%s: error %d, not %d", what, got, asked)
	}
}

// sector answers a sector as a text, of a disk whose power is on.
func sector(t *testing.T, d *disk.Disk, at int) string {
	t.Helper()
	b, e := d.Read(at)
	if e != api.OK || len(b) != wide {
		t.Fatalf("Read(%d): %d bytes, error %d", at, len(b), e)
	}
	return string(b)
}

// all answers all sectors as one text.
func all(t *testing.T, d *disk.Disk) string {
	t.Helper()
	var s strings.Builder
	for at := range d.Sectors() {
		s.WriteString(sector(t, d, at))
	}
	return s.String()
}

// has looks whether sectors 0, 1 .. begin with these texts and go on with noughts.
func has(t *testing.T, d *disk.Disk, texts ...string) {
	t.Helper()
	for at, s := range texts {
		if got := sector(t, d, at); got != padded(s) {
			t.Errorf("sector %d: %q, not %q", at, got, s)
		}
	}
}

// looks looks what Open and Off tell.
func looks(t *testing.T, d *disk.Disk, open int, off bool) {
	t.Helper()
	if d.Open() != open || d.Off() != off {
		t.Errorf("%d open writes and off %t, not %d and %t", d.Open(), d.Off(), open, off)
	}
}

// alike looks whether all that a disk tells is what the chapter's tells.
func alike(t *testing.T, d, c aDisk) bool {
	t.Helper()
	same := d.Sectors() == c.Sectors() && d.Open() == c.Open() && d.Off() == c.Off()
	for at := -1; at <= c.Sectors(); at++ {
		got, e := d.Read(at)
		asked, f := c.Read(at)
		same = same && e == f && bytes.Equal(got, asked)
	}
	return same
}

// call is something that is done with a disk.
type call struct {
	name string
	do   func(d aDisk) api.Errno
}

func write(name string, at int, b []byte) call {
	return call{name, func(d aDisk) api.Errno { return d.Write(at, b) }}
}

func arm(name string, n int) call {
	return call{name, func(d aDisk) api.Errno { return d.Arm(n) }}
}

func crash(name string, keep ...bool) call {
	return call{name, func(d aDisk) api.Errno { return d.Crash(keep) }}
}

func sync() call { return call{"sync", aDisk.Sync} }

// names answers the names of calls in a row.
func names(calls []call) string {
	var s []string
	for _, c := range calls {
		s = append(s, c.name)
	}
	return strings.Join(s, ", ")
}

// played does calls on a new disk and on the chapter's, and tells whether both answer the same.
func played(t *testing.T, sectors int, calls []call) bool {
	t.Helper()
	d, c := made(t, sectors), newChapterDisk(sectors)
	for _, x := range calls {
		if x.do(d) != x.do(c) {
			return false
		}
	}
	return alike(t, d, c)
}

// rows goes through all rows of at most n of the calls.
func rows(n int, of []call, do func(row []call)) {
	var longer func(row []call)
	longer = func(row []call) {
		do(row)
		if len(row) == n {
			return
		}
		for _, c := range of {
			longer(append(row, c))
		}
	}
	longer(make([]call, 0, n))
}

// choices goes through all lists of n bools.
func choices(n int, do func(keep []bool)) {
	for set := range 1 << n {
		keep := make([]bool, n)
		for k := range keep {
			keep[k] = set>>k&1 == 1
		}
		do(keep)
	}
}

// The chapter's examples, and DOC.md's fourth.
func TestExamples(t *testing.T) {
	d := made(t, 2)
	must(t, d.Write(0, []byte("a")))
	must(t, d.Sync())
	must(t, d.Write(0, []byte("b")))
	must(t, d.Write(1, []byte("c")))
	must(t, d.Crash([]bool{false, true}))
	has(t, d, "a", "c")
	for _, kept := range []bool{false, true} {
		d := made(t, 1)
		must(t, d.Write(0, []byte("old")))
		must(t, d.Sync())
		must(t, d.Arm(1))
		must(t, d.Write(0, []byte("new")))
		want(t, "Sync", d.Sync(), api.ErrPower)
		_, e := d.Read(0)
		want(t, "Read", e, api.ErrPower)
		must(t, d.Crash([]bool{kept}))
		has(t, d, map[bool]string{false: "old", true: "new"}[kept])
	}
}

// P9.1: New, and what a new disk tells.
func TestNew(t *testing.T) {
	for _, n := range []int{math.MinInt, math.MinInt + 1, -4096, -2, -1, 0, most + 1, most + 2, 1 << 31, 1 << 32, 1<<32 + 1, math.MaxInt - 1, math.MaxInt} {
		if d, e := disk.New(n); d != nil || e != api.ErrArg {
			t.Errorf("New(%d): %v, error %d", n, d != nil, e)
		}
	}
	for _, n := range []int{1, 2, 3, 63, 64, 65, 255, 256, most - 1, most} {
		d := made(t, n)
		if d.Sectors() != n {
			t.Errorf("New(%d): %d sectors", n, d.Sectors())
		}
		looks(t, d, 0, false)
		if s := all(t, d); s != strings.Repeat("\x00", n*wide) {
			t.Errorf("New(%d): not noughts", n)
		}
		must(t, d.Write(n-1, row(wide, n)))
		must(t, d.Sync())
		has(t, d, append(make([]string, n-1), string(row(wide, n)))...)
	}
}

// P9.1: what Sectors, Open and Off tell behind each kind of call.
func TestSectorsOpenOff(t *testing.T) {
	d := made(t, 3)
	tells := func(what string, open int, off bool) {
		t.Helper()
		if d.Sectors() != 3 || d.Open() != open || d.Off() != off {
			t.Errorf("behind %s: %d sectors, %d open, off %t; not 3, %d, %t", what, d.Sectors(), d.Open(), d.Off(), open, off)
		}
	}
	must(t, d.Write(0, []byte("a")))
	tells("a write", 1, false)
	must(t, d.Write(0, []byte("a")))
	must(t, d.Write(2, nil))
	tells("three writes", 3, false)
	d.Write(3, nil)
	d.Write(0, row(65, 1))
	d.Read(-1)
	d.Arm(-1)
	tells("refusals", 3, false)
	d.Read(0)
	tells("a read", 3, false)
	must(t, d.Arm(2))
	tells("an arm", 3, false)
	must(t, d.Sync())
	tells("a sync", 0, false)
	must(t, d.Write(1, nil))
	tells("a write behind it", 1, false)
	d.Write(1, nil)
	tells("the step of the power", 1, true)
	d.Read(0)
	d.Write(1, nil)
	d.Sync()
	d.Arm(5)
	tells("refusals without power", 1, true)
	must(t, d.Crash(nil))
	tells("a crash", 0, false)
	must(t, d.Write(1, nil))
	must(t, d.Crash([]bool{true}))
	tells("a crash that keeps", 0, false)
	must(t, d.Arm(0))
	d.Sync()
	tells("a sync with which the power goes", 0, true)
	must(t, d.Crash(nil))
	tells("one more crash", 0, false)
}

// P9.2: n steps are done, writes and syncs alike, the next one is not.
func TestArmCountsSteps(t *testing.T) {
	for _, n := range []int{0, 1, 2, 3, 4, 5, 10, 100, 1000} {
		for every := 1; every <= 4; every++ {
			d := made(t, 2)
			must(t, d.Write(0, row(9, 1)))
			must(t, d.Arm(n))
			last := ""
			for i := range n {
				looks(t, d, d.Open(), false)
				if i%every == 0 {
					must(t, d.Sync())
				} else {
					last = string(row(5, i))
					must(t, d.Write(1, []byte(last)))
				}
			}
			has(t, d, string(row(9, 1)), last)
			open := d.Open()
			if n%2 == 0 {
				want(t, "Write", d.Write(1, row(wide, 7)), api.ErrPower)
			} else {
				want(t, "Sync", d.Sync(), api.ErrPower)
			}
			looks(t, d, open, true)
			must(t, d.Crash(slices.Repeat([]bool{true}, open+1)))
			has(t, d, string(row(9, 1)), last)
		}
	}
}

// P9.2: the step with which the power goes off is not done: no write more, and nothing is fast by it.
func TestTheStepOfThePowerIsNotDone(t *testing.T) {
	for _, sync := range []bool{false, true} {
		for _, kept := range []bool{false, true} {
			d := made(t, 2)
			must(t, d.Write(0, []byte("one")))
			must(t, d.Arm(0))
			if sync {
				want(t, "Sync", d.Sync(), api.ErrPower)
			} else {
				want(t, "Write", d.Write(1, []byte("two")), api.ErrPower)
			}
			looks(t, d, 1, true)
			must(t, d.Crash([]bool{kept, true, true}))
			has(t, d, map[bool]string{false: "", true: "one"}[kept], "")
		}
	}
}

// P9.2: Arm of a number below 0 is refused, and what was armed before still counts.
func TestArmBelowNought(t *testing.T) {
	for _, n := range []int{-1, -2, -64, -1 << 31, -1 << 32, math.MinInt + 1, math.MinInt} {
		d := made(t, 1)
		want(t, "Arm", d.Arm(n), api.ErrArg)
		for range 5 {
			must(t, d.Write(0, nil))
		}
		must(t, d.Arm(2))
		must(t, d.Sync())
		want(t, "Arm", d.Arm(n), api.ErrArg)
		must(t, d.Sync())
		want(t, "Arm", d.Arm(n), api.ErrArg)
		looks(t, d, 0, false)
		want(t, "Sync", d.Sync(), api.ErrPower)
		looks(t, d, 0, true)
		want(t, "Arm", d.Arm(n), api.ErrPower)
	}
}

// P9.2: the last Arm counts, whether it lets more steps be done or fewer, also behind steps.
func TestTheLastArmCounts(t *testing.T) {
	for first := range 5 {
		for last := range 5 {
			for between := range first + 1 {
				d := made(t, 1)
				must(t, d.Arm(first))
				for range between {
					must(t, d.Write(0, nil))
				}
				must(t, d.Arm(last))
				for range last {
					must(t, d.Sync())
				}
				looks(t, d, d.Open(), false)
				want(t, "Write", d.Write(0, nil), api.ErrPower)
				looks(t, d, d.Open(), true)
			}
		}
	}
}

// P9.2: a disk that was not armed, or is armed with a great number, does step by step.
func TestManySteps(t *testing.T) {
	for _, n := range []int{-1, 1 << 20, 1<<31 - 1, 1 << 31, 1 << 32, math.MaxInt} {
		d := made(t, 2)
		if n >= 0 {
			must(t, d.Arm(n))
		}
		for i := range 3000 {
			must(t, d.Write(i%2, row(i%65, i)))
			if i%100 == 99 {
				must(t, d.Sync())
			}
		}
		looks(t, d, 0, false)
		has(t, d, string(row(2998%65, 2998)), string(row(2999%65, 2999)))
	}
}

// P9.2: what is refused for its arguments is no step, and Read, Arm and Crash are none.
func TestWhatIsNoStep(t *testing.T) {
	d := made(t, 2)
	must(t, d.Arm(1))
	for range 3 {
		want(t, "Write below", d.Write(-1, nil), api.ErrArg)
		want(t, "Write behind", d.Write(2, nil), api.ErrArg)
		want(t, "Write of much", d.Write(0, row(65, 1)), api.ErrArg)
		_, e := d.Read(0)
		want(t, "Read", e, api.OK)
		_, e = d.Read(2)
		want(t, "Read behind", e, api.ErrArg)
		want(t, "Arm", d.Arm(-1), api.ErrArg)
	}
	must(t, d.Write(0, nil))
	for range 3 {
		want(t, "Write below", d.Write(-1, nil), api.ErrArg)
		want(t, "Write behind", d.Write(2, nil), api.ErrArg)
		want(t, "Write of much", d.Write(0, row(65, 1)), api.ErrArg)
		d.Read(1)
		looks(t, d, 1, false)
	}
	want(t, "Sync", d.Sync(), api.ErrPower)
	for range 3 {
		must(t, d.Crash(nil))
	}
	must(t, d.Arm(2))
	must(t, d.Arm(2))
	must(t, d.Sync())
	must(t, d.Sync())
	want(t, "Write", d.Write(0, nil), api.ErrPower)
}

// P9.2: behind a crash nothing is armed, also if the power had not gone off.
func TestNothingIsArmedBehindCrash(t *testing.T) {
	for n := range 4 {
		for steps := range n + 2 {
			d := made(t, 1)
			must(t, d.Arm(n))
			for range steps {
				d.Write(0, nil)
			}
			if d.Off() != (steps > n) {
				t.Errorf("armed with %d, behind %d steps: off %t", n, steps, d.Off())
			}
			must(t, d.Crash(nil))
			for range 10 {
				must(t, d.Write(0, nil))
				must(t, d.Sync())
			}
			looks(t, d, 0, false)
		}
	}
}

// P9.2: while the power is off, ErrPower comes ahead of ErrArg, and nothing is changed.
func TestWithoutPower(t *testing.T) {
	for _, kept := range []bool{false, true} {
		d := made(t, 2)
		must(t, d.Write(1, []byte("old")))
		must(t, d.Sync())
		must(t, d.Write(1, []byte("new")))
		must(t, d.Arm(0))
		want(t, "Sync", d.Sync(), api.ErrPower)
		for range 2 {
			for _, at := range []int{math.MinInt, -1, 0, 1, 2, math.MaxInt} {
				b, e := d.Read(at)
				want(t, "Read", e, api.ErrPower)
				if len(b) != 0 {
					t.Errorf("Read without power: %x", b)
				}
				for _, n := range []int{0, 1, 64, 65, 1000} {
					want(t, "Write", d.Write(at, row(n, 3)), api.ErrPower)
				}
				want(t, "Arm", d.Arm(at), api.ErrPower)
			}
			want(t, "Sync", d.Sync(), api.ErrPower)
			looks(t, d, 1, true)
		}
		must(t, d.Crash([]bool{kept}))
		has(t, d, "", map[bool]string{false: "old", true: "new"}[kept])
		must(t, d.Sync())
		looks(t, d, 0, false)
	}
}

// P9.3: which sectors there are.
func TestWhichSectors(t *testing.T) {
	for _, n := range []int{1, 2, 5, most} {
		d := made(t, n)
		for _, at := range []int{math.MinInt, math.MinInt + 1, -1 << 32, -most, -n, -2, -1, n, n + 1, 2 * n, most, most + 1, 1 << 32, 1<<58 + 1, math.MaxInt - 1, math.MaxInt} {
			if at >= 0 && at < n {
				continue
			}
			b, e := d.Read(at)
			want(t, "Read", e, api.ErrArg)
			if len(b) != 0 {
				t.Errorf("Read(%d) of %d: %x", at, n, b)
			}
			for _, many := range []int{0, 1, 64, 65} {
				want(t, "Write", d.Write(at, row(many, 1)), api.ErrArg)
			}
		}
		looks(t, d, 0, false)
		if all(t, d) != strings.Repeat("\x00", n*wide) {
			t.Errorf("%d sectors: a refusal wrote", n)
		}
		for _, at := range []int{0, n / 2, n - 1} {
			must(t, d.Write(at, row(wide, at)))
			if sector(t, d, at) != string(row(wide, at)) {
				t.Errorf("sector %d of %d: another one", at, n)
			}
		}
	}
}

// P9.3: a write puts noughts behind its text, also where other bytes stood, and leaves other sectors alone.
func TestWritePutsNoughtsBehind(t *testing.T) {
	for n := range wide + 1 {
		for _, synced := range []bool{false, true} {
			d := made(t, 3)
			for at := range 3 {
				must(t, d.Write(at, row(wide, 50+at)))
			}
			if synced {
				must(t, d.Sync())
			}
			must(t, d.Write(1, row(n, n)))
			has(t, d, string(row(wide, 50)), string(row(n, n)), string(row(wide, 52)))
			must(t, d.Sync())
			has(t, d, string(row(wide, 50)), string(row(n, n)), string(row(wide, 52)))
			must(t, d.Crash(nil))
			has(t, d, string(row(wide, 50)), string(row(n, n)), string(row(wide, 52)))
		}
	}
}

// P9.3: more bytes than a sector has are refused, and nothing is written.
func TestWriteOfTooMuch(t *testing.T) {
	d := made(t, 2)
	must(t, d.Write(0, []byte("a")))
	for _, n := range []int{65, 66, 127, 128, 129, 256, 320, 4096, 1<<16 + 1, 1 << 20} {
		for at := range 2 {
			want(t, "Write", d.Write(at, make([]byte, n)), api.ErrArg)
			want(t, "Write", d.Write(at, row(n, 1)), api.ErrArg)
		}
	}
	looks(t, d, 1, false)
	has(t, d, "a", "")
	must(t, d.Crash(slices.Repeat([]bool{true}, 50)))
	has(t, d, "a", "")
}

// P9.3: Read tells the last write of several, before and behind a Sync.
func TestReadTellsTheLastWrite(t *testing.T) {
	d := made(t, 3)
	must(t, d.Write(0, []byte("first")))
	has(t, d, "first", "", "")
	must(t, d.Write(0, []byte("2nd")))
	must(t, d.Write(2, []byte("other")))
	has(t, d, "2nd", "", "other")
	must(t, d.Write(0, nil))
	has(t, d, "", "", "other")
	must(t, d.Sync())
	looks(t, d, 0, false)
	has(t, d, "", "", "other")
	must(t, d.Write(0, []byte("third")))
	must(t, d.Write(2, []byte("o")))
	must(t, d.Write(0, []byte("4th")))
	looks(t, d, 3, false)
	has(t, d, "4th", "", "o")
	must(t, d.Sync())
	must(t, d.Sync())
	has(t, d, "4th", "", "o")
}

// P9.4: each choice among open writes, with lists that are shorter, as long, or longer than there are such, with the power on and off.
func TestCrashKeepsWhatIsChosen(t *testing.T) {
	places := [][]int{{}, {0}, {0, 0}, {0, 1}, {1, 0}, {0, 0, 0}, {0, 1, 0}, {1, 1, 0}, {2, 0, 2, 0}, {0, 0, 1, 1}, {0, 1, 2, 0, 1}}
	for _, ats := range places {
		for many := 0; many <= len(ats)+2; many++ {
			choices(many, func(keep []bool) {
				for _, off := range []bool{false, true} {
					crashKeeps(t, ats, keep, off)
				}
			})
		}
	}
}

// crashKeeps writes to the sectors, lets the power go off or not, crashes, and looks what is there then.
func crashKeeps(t *testing.T, ats []int, keep []bool, off bool) {
	t.Helper()
	d := made(t, 3)
	asked := []string{"old0", "old1", ""}
	for at, s := range asked {
		must(t, d.Write(at, []byte(s)))
	}
	must(t, d.Sync())
	for k, at := range ats {
		s := "new" + string(rune('a'+k))
		must(t, d.Write(at, []byte(s)))
		if k < len(keep) && keep[k] {
			asked[at] = s
		}
	}
	if off {
		must(t, d.Arm(0))
		want(t, "Sync", d.Sync(), api.ErrPower)
	}
	want(t, "Crash", d.Crash(keep), api.OK)
	looks(t, d, 0, false)
	has(t, d, asked...)
	// What was left out never was: a second crash does not bring it back, whatever it keeps.
	want(t, "Crash", d.Crash(slices.Repeat([]bool{true}, 9)), api.OK)
	has(t, d, asked...)
	looks(t, d, 0, false)
}

// P9.4: many open writes at once, each third of which is kept.
func TestCrashOfManyOpenWrites(t *testing.T) {
	const many = 20000
	d := made(t, 7)
	keep := make([]bool, many)
	asked := make([]string, 7)
	for k := range many {
		at, b := k%5, row(k%65, k)
		must(t, d.Write(at, b))
		if keep[k] = k%3 == 0; keep[k] {
			asked[at] = string(b)
		}
	}
	looks(t, d, many, false)
	must(t, d.Crash(keep))
	looks(t, d, 0, false)
	has(t, d, asked...)
}

// P9.4: a crash of a disk on which nothing is open changes nothing.
func TestCrashWithNothingOpen(t *testing.T) {
	d := made(t, 2)
	for _, keep := range [][]bool{nil, {}, {false}, {true}, {true, true, false, true}} {
		must(t, d.Crash(keep))
		has(t, d, "", "")
	}
	must(t, d.Write(1, []byte("x")))
	must(t, d.Sync())
	for _, keep := range [][]bool{nil, {}, {false}, {true}, {true, true, false, true}} {
		must(t, d.Crash(keep))
		has(t, d, "", "x")
		looks(t, d, 0, false)
	}
}

// P9.4: what a crash kept is fast: no later one loses it.
func TestWhatWasKeptIsFast(t *testing.T) {
	d := made(t, 2)
	must(t, d.Write(0, []byte("a")))
	must(t, d.Write(1, []byte("b")))
	must(t, d.Crash([]bool{true}))
	must(t, d.Write(0, []byte("c")))
	must(t, d.Write(1, []byte("d")))
	must(t, d.Crash([]bool{false, false}))
	has(t, d, "a", "")
	must(t, d.Write(1, []byte("e")))
	must(t, d.Crash([]bool{true}))
	has(t, d, "a", "e")
}

// P9.5: of a nil disk and of a zero one.
func TestDiskThatNewDidNotMake(t *testing.T) {
	var none *disk.Disk
	for _, d := range []*disk.Disk{none, {}, new(disk.Disk)} {
		for range 2 {
			if d.Sectors() != 0 || d.Open() != 0 || d.Off() {
				t.Errorf("%d sectors, %d open, off %t", d.Sectors(), d.Open(), d.Off())
			}
			for _, at := range []int{math.MinInt, -1, 0, 1, math.MaxInt} {
				b, e := d.Read(at)
				want(t, "Read", e, api.ErrNil)
				if len(b) != 0 {
					t.Errorf("Read: %x", b)
				}
				want(t, "Write", d.Write(at, row(64, 1)), api.ErrNil)
				want(t, "Write", d.Write(at, row(65, 1)), api.ErrNil)
				want(t, "Arm", d.Arm(at), api.ErrNil)
			}
			want(t, "Write", d.Write(0, nil), api.ErrNil)
			want(t, "Sync", d.Sync(), api.ErrNil)
			for _, keep := range [][]bool{nil, {}, {true}, {false, true}} {
				want(t, "Crash", d.Crash(keep), api.ErrNil)
			}
		}
	}
}

// P9.6: behind Sync no Crash changes anything.
func TestBehindSyncNoCrashChangesAnything(t *testing.T) {
	r := rand.New(rand.NewSource(9))
	for range 300 {
		d := made(t, 1+r.Intn(6))
		for range r.Intn(12) {
			must(t, d.Write(r.Intn(d.Sectors()), row(r.Intn(65), r.Intn(99))))
		}
		must(t, d.Sync())
		before := all(t, d)
		for range 3 {
			keep := make([]bool, r.Intn(14))
			for k := range keep {
				keep[k] = r.Intn(2) == 0
			}
			must(t, d.Crash(keep))
			if all(t, d) != before {
				t.Fatalf("Crash(%t) changes what was synced", keep)
			}
		}
	}
}

// P9.6: behind a Crash each sector has the bytes of the last Sync, or those of one write behind that.
func TestBehindCrashOldOrOneWrite(t *testing.T) {
	r := rand.New(rand.NewSource(96))
	for range 2000 {
		d := made(t, 1+r.Intn(4))
		may := make([][]string, d.Sectors())
		for range r.Intn(5) {
			must(t, d.Write(r.Intn(d.Sectors()), row(r.Intn(65), r.Intn(99))))
		}
		must(t, d.Sync())
		for at := range may {
			may[at] = []string{sector(t, d, at)}
		}
		must(t, d.Arm(r.Intn(8)))
		for !d.Off() && r.Intn(9) > 0 {
			at, b := r.Intn(d.Sectors()), row(r.Intn(65), r.Intn(99))
			if d.Write(at, b) == api.OK {
				may[at] = append(may[at], padded(string(b)))
			}
		}
		keep := make([]bool, r.Intn(10))
		for k := range keep {
			keep[k] = r.Intn(2) == 0
		}
		must(t, d.Crash(keep))
		for at := range may {
			if !slices.Contains(may[at], sector(t, d, at)) {
				t.Fatalf("sector %d: %q is none of %q", at, sector(t, d, at), may[at])
			}
		}
	}
}

// P9.1 to P9.4: every row of at most five calls answers what the chapter's disk answers.
func TestAllShortRows(t *testing.T) {
	calls := []call{
		write("write 0 a", 0, []byte("a")), write("write 0 b", 0, []byte("bb")), write("write 1 c", 1, []byte("c")),
		write("write behind", 2, []byte("x")), write("write much", 0, row(65, 1)),
		sync(), arm("arm 0", 0), arm("arm 1", 1), arm("arm -1", -1),
		crash("crash"), crash("crash 1", true), crash("crash 01", false, true), crash("crash 111", true, true, true),
	}
	failed := 0
	rows(5, calls, func(row []call) {
		if failed < 5 && !played(t, 2, row) {
			t.Errorf("not as the chapter says: %s", names(row))
			failed++
		}
	})
}

// anyCall answers one of all calls, with ordinary arguments and wrong ones.
func anyCall(r *rand.Rand, sectors int) call {
	switch r.Intn(12) {
	case 0:
		return arm("arm", r.Intn(20)-2)
	case 1:
		keep := make([]bool, r.Intn(12))
		for k := range keep {
			keep[k] = r.Intn(2) == 0
		}
		return crash("crash", keep...)
	case 2, 3:
		return sync()
	case 4:
		return call{"read", func(d aDisk) api.Errno {
			_, e := d.Read(sectors/2 - 1)
			return e
		}}
	}
	return write("write", r.Intn(sectors+2)-1, row(r.Intn(68), r.Intn(256)))
}

// P9.1 to P9.4, R4: long rows, of two disks at once that know nothing of one another.
func TestLongRowsOfTwoDisks(t *testing.T) {
	r := rand.New(rand.NewSource(94))
	for range 60 {
		n := [2]int{1 + r.Intn(5), 1 + r.Intn(5)}
		disks := [2]*disk.Disk{made(t, n[0]), made(t, n[1])}
		chapters := [2]*chapterDisk{newChapterDisk(n[0]), newChapterDisk(n[1])}
		for i := range 200 {
			who := r.Intn(2)
			c := anyCall(r, n[who])
			if e, f := c.do(disks[who]), c.do(chapters[who]); e != f {
				t.Fatalf("call %d, %s: error %d, not %d", i, c.name, e, f)
			}
			if !alike(t, disks[0], chapters[0]) || !alike(t, disks[1], chapters[1]) {
				t.Fatalf("call %d, %s: the disks are not as the chapter says", i, c.name)
			}
		}
	}
}

// R3: what is handed in is neither changed nor kept, and what stands behind its length is not taken.
func TestWhatIsHandedIn(t *testing.T) {
	for _, n := range []int{0, 1, 63, 64, 65} {
		whole := row(200, n)
		d := made(t, 2)
		e := d.Write(1, whole[:n])
		if !bytes.Equal(whole, row(200, n)) {
			t.Errorf("Write of %d bytes changes them", n)
		}
		asked := ""
		if e == api.OK {
			asked = string(whole[:n])
		}
		clear(whole)
		has(t, d, "", asked)
		must(t, d.Sync())
		copy(whole, row(200, 77))
		has(t, d, "", asked)
	}
	whole := []bool{true, false, true, true, true}
	keep := whole[:2]
	d := made(t, 3)
	for at := range 3 {
		must(t, d.Write(at, []byte("x")))
	}
	must(t, d.Crash(keep))
	if !slices.Equal(whole, []bool{true, false, true, true, true}) {
		t.Errorf("Crash changes its list: %t", whole)
	}
	has(t, d, "x", "", "")
	must(t, d.Write(1, []byte("y")))
	keep[0] = false
	must(t, d.Write(0, nil))
	has(t, d, "", "y", "")
	must(t, d.Crash([]bool{false, true}))
	has(t, d, "", "", "")
}

// R3: what Read answers is nobody else's.
func TestWhatReadAnswersIsNew(t *testing.T) {
	for _, synced := range []bool{false, true} {
		d := made(t, 2)
		must(t, d.Write(0, row(wide, 1)))
		must(t, d.Write(1, row(wide, 2)))
		if synced {
			must(t, d.Sync())
		}
		one, _ := d.Read(0)
		two, _ := d.Read(0)
		next, _ := d.Read(1)
		clear(one[:cap(one)])
		_ = append(one, row(wide, 9)...)
		if !bytes.Equal(two, row(wide, 1)) || !bytes.Equal(next, row(wide, 2)) {
			t.Errorf("two answers of Read have something together")
		}
		has(t, d, string(row(wide, 1)), string(row(wide, 2)))
		must(t, d.Write(0, nil))
		must(t, d.Sync())
		if !bytes.Equal(two, row(wide, 1)) {
			t.Errorf("a write changes what Read answered before")
		}
		clear(two)
		clear(next)
		must(t, d.Crash(nil))
		has(t, d, "", string(row(wide, 2)))
	}
}
