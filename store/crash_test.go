package store_test

import (
	"math/rand"
	"slices"
	"testing"

	"inquest/api"
	"inquest/disk"
	"inquest/store"
	"inquest/wal"
)

// choices goes through lists of n bools: all of them, if they are few.
func choices(n int, do func(keep []bool)) {
	if n > 5 {
		last := make([]bool, n)
		last[n-1] = true
		do(nil)
		do(slices.Repeat([]bool{true}, n))
		do(last)
		return
	}
	for set := range 1 << n {
		keep := make([]bool, n)
		for k := range keep {
			keep[k] = set>>k&1 == 1
		}
		do(keep)
	}
}

// life is what is done between two crashes: a store is opened, changes are committed, and the power goes off at a step.
type life struct {
	commits [][]api.Change
	arm     int
}

// lived does a life on a disk of these bytes, on which this is held. It answers the disk, what the Commits that were told OK made, the changes that were under way (or none), and whether the power went off.
func lived(t *testing.T, s string, h held, x life) (*disk.Disk, held, []api.Change, bool) {
	t.Helper()
	d := laid(t, s)
	must(t, d.Arm(x.arm))
	st, e := store.Open(d, 1<<20)
	if e != api.OK {
		if want(t, "Open", e, api.ErrPower); st != nil {
			t.Fatal("a store beside an error")
		}
		return d, h, nil, true
	}
	holds(t, st, h)
	for _, l := range x.commits {
		was := st.Room()
		e := st.Commit(l)
		if e == api.ErrFull {
			continue
		}
		if e != api.OK {
			want(t, "Commit", e, api.ErrPower)
			holds(t, st, h)
			if st.Room() != was {
				t.Fatalf("room %d behind a refusal, not %d", st.Room(), was)
			}
			return d, h, l, true
		}
		h = h.behind(l)
		holds(t, st, h)
	}
	return d, h, nil, false
}

// isHeld tells whether a store holds this.
func isHeld(s *store.Store, h held) bool {
	got := held{}
	for _, p := range s.All() {
		got[p.Key] = string(p.Value)
	}
	return encodedHeld(got) == encodedHeld(h)
}

// encodedHeld answers what is held as one text.
func encodedHeld(h held) string {
	var l []api.Change
	for _, key := range h.scan("", "", len(h)) {
		l = append(l, put(key, h[key]))
	}
	return encoded(l)
}

// survived looks whether a disk holds what was told OK, and then perhaps, wholly, what was under way, and whether it is the same when it is opened again. It answers what is held.
func survived(t *testing.T, d *disk.Disk, told held, under []api.Change) held {
	t.Helper()
	s := opened(t, d, 0)
	h := told
	if !isHeld(s, told) {
		h = told.behind(under)
	}
	holds(t, s, h)
	room := s.Room()
	stepless(t, d, func() {
		s := opened(t, d, 0)
		if holds(t, s, h); s.Room() != room {
			t.Fatalf("room %d, not %d", s.Room(), room)
		}
	})
	return h
}

// P11.6: all rows of some lives, each choice of what a crash keeps, as often as there are new disks.
func TestCrashes(t *testing.T) {
	of := [][]api.Change{
		batch(put("a", "1"), put("b", "2")),
		batch(put("a", row(60, 1)), put("c", "")),
		batch(del("a"), del("b"), put("c", row(90, 2))),
		batch(put("b", row(30, 3)), del("c")),
	}
	var plans [][][]api.Change
	for _, a := range of {
		for _, b := range of {
			plans = append(plans, [][]api.Change{a, b})
		}
	}
	first := all(t, blank(t, 6))
	seen := map[string]held{first: {}}
	whole := map[bool]int{}
	for work := []string{first}; len(work) > 0; work = work[1:] {
		s := work[0]
		for _, plan := range plans {
			for arm, more := 0, true; more; arm++ {
				d, told, under, off := lived(t, s, seen[s], life{plan, arm})
				more = off
				choices(d.Open(), func(keep []bool) {
					d, _, _, _ := lived(t, s, seen[s], life{plan, arm})
					must(t, d.Crash(keep))
					now := all(t, d)
					h := survived(t, d, told, under)
					if under != nil {
						whole[encodedHeld(h) != encodedHeld(told)]++
					}
					if _, ok := seen[now]; !ok {
						seen[now] = h
						work = append(work, now)
					}
				})
			}
		}
	}
	if len(seen) < 100 || whole[false] == 0 || whole[true] == 0 {
		t.Errorf("%d disks, lost or wholly there: %v", len(seen), whole)
	}
}

// P11.6: long rows of lives by chance, on greater disks.
func TestCrashesByChance(t *testing.T) {
	by := rand.New(rand.NewSource(5))
	for range 40 {
		s, h := all(t, blank(t, 1+by.Intn(60))), held{}
		for range 20 {
			x := life{arm: by.Intn(40)}
			for len(x.commits) < 4 {
				if l := chance(by); checked(l) == api.OK {
					x.commits = append(x.commits, l)
				}
			}
			d, told, under, _ := lived(t, s, h, x)
			keep := make([]bool, by.Intn(1+d.Open()))
			for k := range keep {
				keep[k] = by.Intn(2) == 0
			}
			must(t, d.Crash(keep))
			s = all(t, d)
			h = survived(t, d, told, under)
			if by.Intn(2) == 0 {
				s = all(t, d)
			}
		}
	}
}

// P11.4: behind an error of the disk Commit answers as wal.Append does, till the store is opened anew.
func TestFailed(t *testing.T) {
	ahead := batch(put("a", "1"), put("b", row(50, 1)))
	for _, l := range [][]api.Change{batch(del("a")), batch(put("c", row(50, 2)), del("b")), batch(put("a", row(150, 3)))} {
		for arm := 0; ; arm++ {
			w := made(t, 6, 400)
			must(t, w.commit(t, ahead...))
			must(t, w.disk.Arm(arm))
			if e := w.store.Commit(l); e == api.OK {
				if n := sectors(encoded(l)); arm != n+2 && (arm != 2 || n > 1) {
					t.Errorf("%d sectors in %d steps", n, arm)
				}
				break
			}
			w.tells(t)
			want(t, "Commit without power", w.store.Commit(batch(put("z", ""))), api.ErrPower)
			must(t, w.disk.Crash(nil))
			stepless(t, w.disk, func() {
				for range 2 {
					want(t, "Commit with power", w.store.Commit(l), api.ErrPower)
					want(t, "Commit with power", w.store.Commit(batch(del("none"))), api.ErrPower)
					// R2: what comes ahead of wal.Append's errors, and of these what comes ahead of the power.
					want(t, "no changes", w.store.Commit(nil), api.ErrArg)
					want(t, "the same key", w.store.Commit(batch(del("a"), del("a"))), api.ErrThere)
					want(t, "above the quota", w.store.Commit(batch(put("z", row(400, 1)))), api.ErrQuota)
					want(t, "no room", w.store.Commit(batch(put("y", row(150, 1)), put("z", row(150, 2)))), api.ErrFull)
					w.tells(t)
				}
			})
			w.store = opened(t, w.disk, 400)
			w.tells(t)
			must(t, w.commit(t, l...))
			w.fast(t)
		}
	}
}

// P11.4: errors of a failed log that come ahead of the power's.
func TestFailedBig(t *testing.T) {
	w := made(t, 9, 1<<20)
	must(t, w.disk.Arm(0))
	want(t, "Commit", w.store.Commit(batch(put("a", ""))), api.ErrPower)
	var l []api.Change
	for k := range 5 {
		l = append(l, put(name(3, k), row(longValue, k)))
	}
	want(t, "too long", w.store.Commit(l), api.ErrBig)
	want(t, "no room", w.store.Commit(l[:3]), api.ErrFull)
	must(t, w.disk.Crash(nil))
	want(t, "too long", w.store.Commit(l), api.ErrBig)
	want(t, "no room", w.store.Commit(l[:3]), api.ErrFull)
	want(t, "Commit", w.store.Commit(batch(put("a", ""))), api.ErrPower)
	w.tells(t)
}

// P11.4: the power that goes off by another one's step is no error that the store was told.
func TestPowerOff(t *testing.T) {
	w := made(t, 9, 100)
	must(t, w.commit(t, put("a", "1")))
	must(t, w.disk.Arm(0))
	want(t, "Sync", w.disk.Sync(), api.ErrPower)
	w.tells(t)
	want(t, "no changes", w.store.Commit(nil), api.ErrArg)
	want(t, "above the quota", w.store.Commit(batch(put("b", row(100, 1)))), api.ErrQuota)
	must(t, w.disk.Crash(nil))
	must(t, w.commit(t, put("b", "2")))
	w.fast(t)
}

// P11.4: a store beside a log that gets the texts of what can be and is within the quota: the same errors, the same disks, whenever the power goes off.
func TestAsAppend(t *testing.T) {
	by := rand.New(rand.NewSource(6))
	told := map[api.Errno]int{}
	for range 150 {
		quota := 50 + by.Intn(700)
		w := made(t, 1+by.Intn(40), quota)
		other := blank(t, w.disk.Sectors())
		log, e := wal.Open(other)
		must(t, e)
		arm := by.Intn(60)
		must(t, w.disk.Arm(arm))
		must(t, other.Arm(arm))
		for range 25 {
			l := chance(by)
			asked := w.asked(l)
			if checked(l) == api.OK && asked != api.ErrQuota {
				asked = log.Append([]byte(encoded(l)))
			}
			e := w.store.Commit(l)
			want(t, "Commit", e, asked)
			told[e]++
			if e == api.OK {
				w.held = w.held.behind(l)
				w.texts = append(w.texts, encoded(l))
			}
			w.tells(t)
			if w.store.Room() != log.Room() || w.disk.Off() != other.Off() || w.disk.Open() != other.Open() {
				t.Fatalf("room %d, off %t, %d open writes", w.store.Room(), w.disk.Off(), w.disk.Open())
			}
		}
		keep := make([]bool, w.disk.Open())
		for k := range keep {
			keep[k] = by.Intn(2) == 0
		}
		must(t, w.disk.Crash(keep))
		must(t, other.Crash(keep))
		if all(t, w.disk) != all(t, other) {
			t.Fatal("the disk is another one")
		}
	}
	for _, e := range []api.Errno{api.OK, api.ErrArg, api.ErrBig, api.ErrThere, api.ErrQuota, api.ErrFull, api.ErrPower} {
		if told[e] < 5 {
			t.Errorf("error %d: %d times", e, told[e])
		}
	}
}
