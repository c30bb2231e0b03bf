package tenant_test

import (
	"fmt"
	"maps"
	"math/rand"
	"slices"
	"strings"
	"testing"

	"inquest/api"
	"inquest/disk"
	"inquest/store"
	"inquest/tenant"
)

// choices goes through what a crash may keep of n open writes: all ways, if they are few; else nothing, all, each one alone, all but each one.
func choices(n int, f func(keep []bool)) {
	if n <= 3 {
		for set := range 1 << n {
			keep := make([]bool, n)
			for k := range keep {
				keep[k] = set>>k&1 == 1
			}
			f(keep)
		}
		return
	}
	f(nil)
	f(slices.Repeat([]bool{true}, n))
	for k := range n {
		keep := make([]bool, n)
		keep[k] = true
		f(keep)
		keep = slices.Repeat([]bool{true}, n)
		keep[k] = false
		f(keep)
	}
}

// life is what is done between two crashes: a tenant is opened, a row is asked of it, and the power goes off behind so many steps.
type life struct {
	row  []api.Ask
	lim  api.Limits
	arm  int
	from string // the disk's bytes
	w    *words // what they hold
}

// lived does a life. It answers the disk, what was told, and what would have been told had the call that was under way been done; and whether the power went off.
func (x life) lived(t *testing.T) (d *disk.Disk, told, under *words, off bool) {
	t.Helper()
	d = diskOf(t, x.from)
	must(t, d.Arm(x.arm))
	p := pair{nil, d, x.w.copied()}
	p.w.lim, p.w.steps = x.lim, x.arm
	p.w.anew()
	var err api.Errno
	if p.x, err = tenant.Open(d, x.lim, []byte("key")); err != api.OK {
		if p.x != nil || err != api.ErrPower {
			t.Fatalf("Open: a tenant %t, error %d", p.x != nil, err)
		}
		return d, p.w, p.w, true
	}
	p.w.steps = x.arm - x.opening()
	for k, a := range x.row {
		was := p.w.copied()
		p.does(t, a, k)
		if !d.Off() {
			continue
		}
		p.stands(t)
		done := was.copied()
		done.steps = -1
		if a.Kind == 0 {
			done.step(a.A)
		} else {
			done.do(a, k)
		}
		return d, was, done, true
	}
	return d, p.w, p.w, false
}

// opening answers how many steps Open does: sectors behind the log's end are written with noughts, and then a Sync.
func (x life) opening() int {
	n := 0
	for at := x.w.next; at < x.w.sectors; at++ {
		if strings.Trim(x.from[at*64:at*64+64], "\x00") != "" {
			n++
		}
	}
	if n > 0 {
		n++
	}
	return n
}

// survived looks whether what is on a disk is what was told, or that with what was under way; also where the power goes off while it is opened. It answers which.
func survived(t *testing.T, d *disk.Disk, lim api.Limits, told, under *words) (pair, bool) {
	t.Helper()
	s := bytesOf(t, d)
	for n := 0; ; n++ {
		e := diskOf(t, s)
		must(t, e.Arm(n))
		x, err := tenant.Open(e, lim, []byte("key"))
		if err == api.OK {
			break
		}
		if x != nil || err != api.ErrPower {
			t.Fatalf("Open: a tenant %t, error %d", x != nil, err)
		}
		choices(e.Open(), func(keep []bool) {
			e := diskOf(t, s)
			must(t, e.Arm(n))
			tenant.Open(e, lim, []byte("key"))
			must(t, e.Crash(keep))
			came(t, e, lim, told, under)
		})
	}
	return came(t, d, lim, told, under)
}

// came opens a tenant behind a crash and holds it against the words; it answers whether what was under way is done.
func came(t *testing.T, d *disk.Disk, lim api.Limits, told, under *words) (pair, bool) {
	t.Helper()
	p := pair{nil, d, told.copied()}
	s, err := store.Open(diskOf(t, bytesOf(t, d)), 0)
	must(t, err)
	done := !maps.Equal(held(s), told.content())
	if done {
		p.w = under.copied()
	}
	p.w.steps = -1
	p.anew(t, lim)
	p.stands(t)
	return p, done
}

// ends does all jobs, and asks that the entries are those that come of the same jobs without a crash, those that were there ahead of it first.
func (p *pair) ends(t *testing.T, told *words) {
	t.Helper()
	p.all(t)
	p.stands(t)
	for n, e := range p.w.entries {
		b, err := p.x.Ledger().Text(n)
		must(t, err)
		if string(b) != entryText(p.w.entryOf(n)) || n < len(told.entries) && fmt.Sprint(e) != fmt.Sprint(told.entries[n]) {
			t.Fatalf("entry %d: %x", n, b)
		}
	}
}

// P22.4: a row of asks and Steps, the power off at each step of the disk, with each choice of what is kept, also while it is opened.
func TestCrashes(t *testing.T) {
	blank := bytesOf(t, blankDisk(t, 60))
	whole := map[string]int{}
	for arm, more := 0, true; more; arm++ {
		x := life{row(), wide, arm, blank, nothing(wide, "key", 60)}
		d, _, _, off := x.lived(t)
		more = off
		choices(d.Open(), func(keep []bool) {
			d, told, under, _ := x.lived(t)
			must(t, d.Crash(keep))
			p, done := survived(t, d, wide, told, under)
			if off {
				whole[fmt.Sprint(len(told.jobs) < len(under.jobs), len(told.entries) < len(under.entries), done)]++
			}
			p.proves(t)
			p.ends(t, told)
		})
	}
	often(t, whole, 1, "false false true", "false false false", "true false true", "true false false", "false true true", "false true false")
}

// P22.4: a second life behind each crash of the first one: what is left there of the first does no harm.
func TestCrashesAgain(t *testing.T) {
	blank := bytesOf(t, blankDisk(t, 60))
	second := []api.Ask{
		{A: 9},
		{Kind: api.APut, Name: "d", Body: make([]byte, 90)},
		{Kind: api.ASubmit, Name: "a", Spec: "cell"},
		{A: 9},
	}
	r := rand.New(rand.NewSource(2205))
	for arm, more := 0, true; more; arm += 1 + r.Intn(3) {
		x := life{row(), wide, arm, blank, nothing(wide, "key", 60)}
		_, _, _, off := x.lived(t)
		more = off
		d, told, under, _ := x.lived(t)
		must(t, d.Crash(byChance(r, d.Open())))
		p, _ := came(t, diskOf(t, bytesOf(t, d)), wide, told, under)
		y := life{second, wide, 0, bytesOf(t, d), p.w}
		for again := true; again; y.arm++ {
			d, told, under, off := y.lived(t)
			again = off
			must(t, d.Crash(byChance(r, d.Open())))
			q, _ := survived(t, d, wide, told, under)
			q.ends(t, told)
		}
	}
}

// byChance answers what a crash keeps of n open writes, by chance; now and then all, or nothing.
func byChance(r *rand.Rand, n int) []bool {
	switch r.Intn(4) {
	case 0:
		return nil
	case 1:
		return slices.Repeat([]bool{true}, n)
	}
	keep := make([]bool, r.Intn(n+1))
	for k := range keep {
		keep[k] = r.Intn(2) == 0
	}
	return keep
}

// P22.4: long rows of lives by chance, each with other limits.
func TestCrashesByChance(t *testing.T) {
	r := rand.New(rand.NewSource(2206))
	met := map[bool]int{}
	for range 40 {
		p := made(t, wide, 200+r.Intn(600))
		p.knows(t)
		s, w := bytesOf(t, p.d), p.w
		for range 12 {
			lim := api.Limits{Quota: 500 + r.Intn(4000), Queue: 1 + r.Intn(8), Fuel: r.Intn(60), Budget: r.Intn(40)}
			x := life{nil, lim, r.Intn(60), s, w}
			for range 25 {
				x.row = append(x.row, anyAsk(r, w))
			}
			d, told, under, _ := x.lived(t)
			must(t, d.Crash(byChance(r, d.Open())))
			q, done := survived(t, d, lim, told, under)
			met[done]++
			s, w = bytesOf(t, d), q.w
		}
	}
	often(t, met, 10, true, false)
}
