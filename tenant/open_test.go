package tenant_test

import (
	"fmt"
	"slices"
	"testing"

	"inquest/api"
	"inquest/disk"
	"inquest/tenant"
	"inquest/wal"
)

// P22.1 to P22.3: the chapter's examples.
func TestExamples(t *testing.T) {
	p := made(t, api.Limits{Quota: 1000, Queue: 1, Fuel: 9, Budget: 9}, 60)
	p.tells(t, api.Ask{Kind: api.APut, Name: "a", Body: []byte("\x00")}, 5, 200, "1")
	p.tells(t, api.Ask{Kind: api.ASeal, Name: "a"}, 5, 200, "0")
	p.tells(t, api.Ask{Kind: api.ASeal, Name: "a"}, 5, 409, "")
	p.tells(t, api.Ask{Kind: api.ASpec, Name: "s", Body: []byte{1, api.IRefuse}}, 5, 200, "1")
	p.tells(t, api.Ask{Kind: api.ASubmit, Name: "a", Spec: "s"}, 5, 200, "0")
	p.tells(t, api.Ask{Kind: api.AJob}, 5, 200, "waiting")
	if n, done := p.step(t, 0); n != 0 || !done {
		t.Errorf("Step(0): %d, %t", n, done)
	}
	p.tells(t, api.Ask{Kind: api.AJob}, 5, 200, "done fits 0 -")
	p.stands(t)
}

// P22.2, P22.3: what the document's own examples say of a tenant: a job with a budget of 0 and an operation that is done, the usage of one with a Quota of 0.
func TestExamplesOfTheWhole(t *testing.T) {
	p := made(t, api.Limits{Quota: 1000, Queue: 1, Fuel: 9}, 60)
	p.done(t,
		api.Ask{Kind: api.APut, Name: "a", Body: text(call(0, 0, 1), answer(0, 1))},
		api.Ask{Kind: api.ASeal, Name: "a"},
		api.Ask{Kind: api.ASpec, Name: "s", Body: specs()["echo"]},
		api.Ask{Kind: api.ASubmit, Name: "a", Spec: "s"},
	)
	if n, done := p.step(t, 0); n != 0 || !done {
		t.Errorf("Step(0): %d, %t", n, done)
	}
	p.tells(t, api.Ask{Kind: api.AJob}, 0, 200, "done out-of-tries 0 -")
	p = made(t, api.Limits{Queue: 1}, 1)
	p.tells(t, api.Ask{Kind: api.AUsage}, 0, 200, "0 0 0 0")
}

// limits are numbers at the bounds of each limit, and beyond them; those that may be are the middle ones.
var (
	quotas  = []int{-1, least, 0, 1, greatest}
	queues  = []int{-1, 0, 9, least, greatest, 1, 8}
	fuels   = []int{-1, 10001, least, greatest, 0, 10000}
	budgets = []int{-1, 1<<30 + 1, least, greatest, 0, 1 << 30}
)

// allLimits goes through all combinations of these numbers, and tells whether they may be.
func allLimits(f func(lim api.Limits, may bool)) {
	for _, quota := range quotas {
		for _, queue := range queues {
			for _, fuel := range fuels {
				for _, budget := range budgets {
					may := quota >= 0 && queue >= 1 && queue <= 8 && fuel >= 0 && fuel <= 10000 && budget >= 0 && budget <= 1<<30
					f(api.Limits{Quota: quota, Queue: queue, Fuel: fuel, Budget: budget}, may)
				}
			}
		}
	}
}

// P22.1: each limit at its bounds and just beyond them, in all combinations.
func TestLimits(t *testing.T) {
	met := map[bool]int{}
	allLimits(func(lim api.Limits, may bool) {
		met[may]++
		if !may {
			refuses(t, lim, blankDisk(t, 1), lim, api.ErrArg)
			return
		}
		p := made(t, lim, 1)
		p.stands(t)
	})
	often(t, met, 20, true, false)
}

// P22.1: limits that can't be come ahead of all errors of the disk, and of what the store has; the disk is as it was.
func TestLimitsFirst(t *testing.T) {
	off := blankDisk(t, 3)
	must(t, off.Arm(0))
	off.Sync()
	foreign := laid(t, 9, map[string]string{"x": "y"})
	rotten := diskOf(t, string(slices.Repeat([]byte{7}, 640)))
	allLimits(func(lim api.Limits, may bool) {
		if may {
			return
		}
		for what, d := range map[string]*disk.Disk{"nil": nil, "none": new(disk.Disk), "off": off, "foreign": foreign, "rotten": rotten} {
			refuses(t, what, d, lim, api.ErrArg)
		}
	})
}

// P22.1: store.Open's errors.
func TestStoreErrs(t *testing.T) {
	refuses(t, "nil", nil, wide, api.ErrNil)
	refuses(t, "none", new(disk.Disk), wide, api.ErrNil)
	off := blankDisk(t, 3)
	must(t, off.Arm(0))
	off.Sync()
	refuses(t, "off", off, wide, api.ErrPower)
	refuses(t, "rotten", diskOf(t, string(slices.Repeat([]byte{7}, 640))), wide, api.ErrSum)
	for _, b := range []string{"", "\x00", "\x01", "\x01\x00\x02u/\x00\x00", "\x11"} {
		d := blankDisk(t, 3)
		l, err := wal.Open(d)
		must(t, err)
		must(t, l.Append([]byte(b)))
		refuses(t, fmt.Sprintf("%x", b), d, wide, api.ErrForm)
	}
}

// P22.1: the power goes off while a store is opened that has something to be wiped out.
func TestStoreLosesPower(t *testing.T) {
	s := string(slices.Repeat([]byte{0}, 64*9)) + string(slices.Repeat([]byte{7}, 64*3))
	for n := range 4 {
		d := diskOf(t, s)
		must(t, d.Arm(n))
		refuses(t, n, d, wide, api.ErrPower)
	}
	d := diskOf(t, s)
	must(t, d.Arm(4))
	opened(t, d, wide, nil)
}

// P22.1: a bit turned in what a tenant left is store.Open's ErrSum, nothing else.
func TestBitsTurned(t *testing.T) {
	p := made(t, wide, 200)
	p.knows(t)
	p.submits(t, asked{"set", "cell", 5})
	p.all(t)
	s := bytesOf(t, p.d)
	for at := range 64 * 20 {
		if s[at] == 0 {
			continue // it may be the rest of a sector, which no sum is over
		}
		b := []byte(s)
		b[at] ^= 1
		d := diskOf(t, string(b))
		if x, err := tenant.Open(d, wide, nil); x != nil || err != api.ErrSum {
			t.Fatalf("bit of %d: a tenant %t, error %d", at, x != nil, err)
		}
	}
}

// keys answers keys of all the lengths that matter.
func keys() [][]byte {
	var l [][]byte
	for _, n := range []int{0, 1, 2, 63, 64, 65, 200} {
		b := make([]byte, n)
		for i := range b {
			b[i] = byte(1 + (i*7+n)%255)
		}
		l = append(l, b)
	}
	return append(l, nil)
}

// withKey answers a tenant that has entries, signed by this key.
func withKey(t *testing.T, key []byte) pair {
	t.Helper()
	d := blankDisk(t, 400)
	p := pair{opened(t, d, wide, key), d, nothing(wide, string(key), 400)}
	p.knows(t)
	p.submits(t, asked{"set", "cell", 5}, asked{"turn", "cell", 6}, asked{"wrong", "echo", 7})
	p.all(t)
	return p
}

// P22.1: heads are signed by the key, whatever it is; by another one they are others.
func TestKeys(t *testing.T) {
	signs := map[api.Digest]int{}
	for _, key := range keys() {
		p := withKey(t, key)
		p.proves(t)
		h, err := p.x.Ledger().Head(3)
		must(t, err)
		signs[h.Sign]++
		p.anew(t, wide)
		p.proves(t)
	}
	if len(signs) != len(keys())-1 {
		t.Errorf("%d unlike signatures of %d keys, of which two are empty", len(signs), len(keys()))
	}
}

// P22.1, R3: the key is kept as it was: what is written into the bytes afterwards changes no head; nor is it changed.
func TestKeyIsKept(t *testing.T) {
	for _, key := range keys() {
		given := slices.Concat(key, []byte{1, 2, 3})
		was := slices.Clone(given)
		d := blankDisk(t, 400)
		p := pair{opened(t, d, wide, given[:len(key)]), d, nothing(wide, string(key), 400)}
		p.knows(t)
		p.submits(t, asked{"set", "cell", 5}, asked{"turn", "cell", 5})
		p.step(t, greatest)
		p.proves(t)
		if !slices.Equal(given, was) {
			t.Errorf("%x came to be %x", was, given)
		}
		for i := range given {
			given[i] ^= 0xff
		}
		p.proves(t)
		p.step(t, greatest)
		p.proves(t)
	}
}

// P22.1: a tenant that is opened anew is as it was left: with uploads, histories, specifications, jobs that wait and that are done; and again.
func TestReopen(t *testing.T) {
	p := made(t, wide, 600)
	p.stands(t)
	p.anew(t, wide)
	p.stands(t)
	p.knows(t)
	p.done(t, api.Ask{Kind: api.APut, Name: "a"}, api.Ask{Kind: api.APut, Name: "b", Body: []byte("\x01")})
	for k, h := range sorted(p.w.histories) {
		p.submits(t, asked{h, "cell", 1 << 40 >> k})
		p.submits(t, asked{h, "none", k})
		for range k % 3 {
			p.step(t, 7)
		}
		s := bytesOf(t, p.d)
		for range 2 {
			p.anew(t, wide)
			p.stands(t)
			p.proves(t)
		}
		if bytesOf(t, p.d) != s || p.d.Open() != 0 {
			t.Fatal("the disk is another one")
		}
		for p.w.waits() > 4 {
			p.step(t, greatest)
		}
	}
	p.done(t, api.Ask{Kind: api.APut, Name: "b", Body: []byte("\x01")})
	p.all(t)
	p.stands(t)
}

// P22.1: no job did any try yet, however many it had.
func TestNoTryYet(t *testing.T) {
	p := made(t, wide, 300)
	p.knows(t)
	p.submits(t, asked{"wrong", "echo", 5}, asked{"crowd", "echo", 5})
	whole := p.w.verdict(p.w.jobs[0]).Tries
	for n := range whole {
		if k, done := p.step(t, n); k != n || done {
			t.Fatalf("Step(%d) of %d: %d, %t", n, whole, k, done)
		}
		p.anew(t, wide)
		if n%8 == 0 {
			q := p
			q.d, q.w = diskOf(t, bytesOf(t, p.d)), p.w.copied()
			q.anew(t, wide)
			if k, done := q.step(t, greatest); k != whole || !done {
				t.Fatalf("behind %d: %d, %t", n, k, done)
			}
		}
	}
	p.all(t)
}

// P22.1: a tenant that is opened with other limits than it was left with: more jobs may wait than Queue, more bytes be used than Quota.
func TestOtherLimits(t *testing.T) {
	p := made(t, wide, 600)
	p.knows(t)
	for k := range mostWait {
		p.submits(t, asked{"turn", "cell", k})
	}
	few := api.Limits{Quota: 0, Queue: 1, Fuel: 0, Budget: 0}
	p.anew(t, few)
	p.stands(t)
	more := api.Ask{Kind: api.ASubmit, Name: "turn", Spec: "cell"}
	for range mostWait {
		p.tells(t, more, 0, 429, "")
		p.tells(t, api.Ask{Kind: api.APut, Name: "a", Body: []byte("x")}, 0, 507, "")
		if n, done := p.step(t, greatest); n != 0 || !done {
			t.Fatalf("Step: %d, %t", n, done)
		}
		p.stands(t)
		p.anew(t, few)
		p.stands(t)
	}
	p.tells(t, more, 0, 507, "")
	p.tells(t, api.Ask{Kind: api.AJob, A: 7}, 0, 200, "done out-of-tries 0 -")
	few.Quota, few.Budget = wide.Quota, 1
	p.anew(t, few)
	p.submits(t, asked{"turn", "cell", 9})
	p.all(t)
	p.tells(t, api.Ask{Kind: api.AJob, A: 8}, 0, 200, "done out-of-fuel 1 -")
	p.proves(t)
}
