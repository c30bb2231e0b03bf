package server_test

import (
	"fmt"
	"math/rand"
	"strings"
	"testing"

	"inquest/api"
	"inquest/entry"
)

// P24.3: the time is so much more, never less, never more than MaxTime, and no sum wraps round.
func TestPass(t *testing.T) {
	rows := []struct {
		passes []int
		times  []int
	}{
		{[]int{0, 1, 0, -1, 2, least, 3}, []int{0, 1, 1, 1, 3, 3, 6}},
		{[]int{mostTime - 1, 0, 1, 1, -1, greatest}, []int{mostTime - 1, mostTime - 1, mostTime, mostTime, mostTime, mostTime}},
		{[]int{mostTime, 1, least, -mostTime}, []int{mostTime, mostTime, mostTime, mostTime}},
		{[]int{mostTime + 1, 0}, []int{mostTime, mostTime}},
		{[]int{greatest, greatest, 1}, []int{mostTime, mostTime, mostTime}},
		{[]int{1, greatest, least}, []int{1, mostTime, mostTime}},
		{[]int{1, greatest - 1}, []int{1, mostTime}},
		{[]int{5, mostTime - 5, 1}, []int{5, mostTime, mostTime}},
		{[]int{5, mostTime - 6, 2}, []int{5, mostTime - 1, mostTime}},
		{[]int{least, least, -1, 7, -7, 7}, []int{0, 0, 0, 7, 7, 14}},
	}
	for _, deeds := range []bool{false, true} {
		for _, x := range rows {
			p := made(t, named(1), 1)
			p.deeds = deeds
			for k, n := range x.passes {
				p.pass(t, n)
				if got := p.s.Now(); got != x.times[k] {
					t.Fatalf("%v: %d, not %d", x.passes[:k+1], got, x.times[k])
				}
			}
			p.stands(t)
		}
	}
}

// P24.3: rows of Pass by chance; nothing but Pass changes the time.
func TestPassByChance(t *testing.T) {
	r := rand.New(rand.NewSource(2403))
	for range 300 {
		p := made(t, named(2), 20)
		for range 50 {
			p.pass(t, int(r.Uint64())>>r.Intn(64))
			p.asks(t, 0, "a", "PUT", "/uploads/a", "", p.asked("PUT", "/uploads/a"))
			p.pick(t, 5)
			p.shut(t, 0)
			p.hear(t, 1, "\n")
		}
		p.stands(t)
	}
}

// asked answers the status that a request of a's with a body of nothing has to have, on a server beside this one.
func (p *pair) asked(method, target string) int {
	if p.w.now == mostTime {
		return 401
	}
	if room := p.w.tenants[0].Store().Room(); room < len("\x01\x00\x03u/a\x00") {
		return 507
	}
	return 200
}

// P24.2, P24.3: a job that is asked for has the server's time, and so has its entry.
func TestTimeOfJobs(t *testing.T) {
	p := made(t, named(2), 200)
	p.knows(t, "a", "set", "cell")
	p.knows(t, "b", "set", "cell")
	times := []int{0, 0, 1, 41, 1000, mostTime - 1}
	for k, now := range times {
		p.pass(t, now-p.s.Now())
		for m, name := range []string{"a", "b"} {
			p.asks(t, m, name, "POST", "/jobs/set/cell", "", 200)
			got, ok := p.s.Tenant(m).Store().Get(fmt.Sprintf("j/%02d", k))
			if want := fmt.Sprintf("set cell %d", now); !ok || strings.TrimRight(string(got), " ") != want {
				t.Fatalf("job %d: %q, not %q", k, got, want)
			}
		}
	}
	p.pass(t, 1)
	for range 2 * len(times) {
		p.pick(t, 100)
	}
	for m := range 2 {
		for k, now := range times {
			b, err := p.s.Tenant(m).Ledger().Text(k)
			must(t, err)
			if e, err := entry.Decode(b); err != api.OK || e.Time != now || e.Job != k {
				t.Fatalf("entry %d: %+v", k, e)
			}
		}
	}
	p.stands(t)
}

// P24.3: the places have their turns one behind the other, whatever n is, and whatever is heard in between; behind the last one the first.
func TestPickPlaces(t *testing.T) {
	numbers := []int{0, 1, -1, 5, least, greatest, 100, -100, 2, 1 << 40}
	for n := 1; n <= mostMembers; n++ {
		p := made(t, named(n), 9)
		for k := range 4*n + 1 {
			at, tries, done := p.s.Pick(numbers[k%len(numbers)])
			if at != k%n || tries != 0 || done {
				t.Fatalf("%d members, turn %d: %d, %d, %t", n, k, at, tries, done)
			}
			p.hear(t, k%conns, ask("GET", "/usage", p.mine("a"), "")+"\n")
			p.pass(t, 3)
			p.shut(t, k%conns)
			p.arm(t, k%n, k)
		}
		p.stands(t)
	}
}

// P24.3: the turn of a member that wants none, and of one that is down, comes all the same: 0 tries, nothing done.
func TestPickAll(t *testing.T) {
	for wants := range 16 {
		for down := range 16 {
			l := named(4)
			for k := range l {
				if down>>k&1 == 1 {
					l[k].Limits.Queue = 9
				}
			}
			p := made(t, l, 60)
			for k, m := range l {
				if wants>>k&1 == 1 && down>>k&1 == 0 {
					p.knows(t, m.Name, "late", "cell")
					p.asks(t, 0, m.Name, "POST", "/jobs/late/cell", "", 200)
				}
			}
			for turn := range 12 {
				k := turn % 4
				at, tries, done := p.pick(t, 1)
				is := wants>>k&1 == 1 && down>>k&1 == 0
				if at != k || tries != map[bool]int{true: 1, false: 0}[is && turn < 8] || done != (is && turn/4 == 1) {
					t.Fatalf("wants %b, down %b, turn %d: %d, %d, %t", wants, down, turn, at, tries, done)
				}
			}
			p.stands(t)
		}
	}
}

// P24.3: Pick does as many tries as n says of the first job that waits there, and goes on where that was; n below 0 does none.
func TestPickTries(t *testing.T) {
	for _, deeds := range []bool{false, true} {
		for _, n := range []int{least, -1, 0, 1, 2, 3, 7, 50, 1000, greatest} {
			p := made(t, named(3), 100)
			p.deeds = deeds
			for k, name := range []string{"a", "c"} {
				p.knows(t, name, "crowd", "echo")
				for range 2 + k {
					p.asks(t, 0, name, "POST", "/jobs/crowd/echo", "", 200)
				}
			}
			all, jobs := map[int]int{}, map[int]int{}
			turns := 24
			if n == 1 || n == 2 {
				turns = 900
			}
			for range turns {
				at, tries, done := p.pick(t, n)
				all[at] += tries
				if done {
					jobs[at]++
				}
				if tries > max(n, 0) {
					t.Fatalf("Pick(%d): %d tries", n, tries)
				}
			}
			if all[1] != 0 || jobs[1] != 0 || n <= 0 && (all[0] > 0 || jobs[0] > 0) || n >= 50 && (jobs[0] != 2 || jobs[2] != 3) {
				t.Errorf("Pick(%d): %v tries, %v jobs", n, all, jobs)
			}
			p.stands(t)
			p.asks(t, 0, "a", "GET", "/jobs/1", "", 200)
		}
	}
}

// P24.3: Down and Tenant, of each place: which there is, which is down; the tenant is the member's own, the same each time.
func TestTenant(t *testing.T) {
	for n := 1; n <= mostMembers; n++ {
		for down := range n + 1 {
			l := append([]api.Member{}, named(n)...)
			if down < n {
				l[down].Limits.Fuel = -1
			}
			p := made(t, l, 60)
			for _, k := range places(n) {
				is := k >= 0 && k < n
				if p.s.Down(k) != (is && k == down) || (p.s.Tenant(k) == nil) != (!is || k == down) {
					t.Fatalf("place %d of %d: down %t, nil %t", k, n, p.s.Down(k), p.s.Tenant(k) == nil)
				}
				if p.s.Tenant(k) != p.s.Tenant(k) {
					t.Errorf("place %d: two tenants", k)
				}
			}
			for k, m := range l {
				if k == down {
					continue
				}
				x := p.s.Tenant(k)
				p.asks(t, 0, m.Name, "PUT", "/uploads/"+m.Name, "x", 200)
				if got := held(x.Store()); len(got) != 1 || got["u/"+m.Name] != "x" {
					t.Errorf("member %s: %q", m.Name, got)
				}
			}
			p.stands(t)
		}
	}
}
