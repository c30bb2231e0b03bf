package server_test

import (
	"fmt"
	"maps"
	"math/rand"
	"slices"
	"strings"
	"testing"

	"inquest/disk"
)

// P24.4: Arm is that of the member's own disk: behind so many steps its power goes off, and no other one's does.
func TestArm(t *testing.T) {
	for _, deeds := range []bool{false, true} {
		for n := 1; n <= mostMembers; n += 2 {
			for k := range n {
				for steps := range 9 {
					p := made(t, named(n), 60)
					p.deeds = deeds
					p.arm(t, k, steps)
					for round := range 5 {
						for m, x := range named(n) {
							// Each upload is one sector and a Sync.
							p.asks(t, 0, x.Name, "PUT", "/uploads/a", "x", map[bool]int{true: 503, false: 200}[m == k && 2*round+2 > steps])
							if off := m == k && 2*round+2 > steps; p.disks[m].Off() != off {
								t.Fatalf("Arm(%d, %d), round %d: disk %d off %t", k, steps, round, m, !off)
							}
						}
					}
					p.stands(t)
				}
			}
		}
	}
}

// P24.4: Arm of no member, or below 0, does nothing; the last one counts; while the power is off none does anything.
func TestArmOthers(t *testing.T) {
	for _, deeds := range []bool{false, true} {
		p := made(t, named(3), 200)
		p.deeds = deeds
		for _, k := range append(places(3), 3, 7, 8) {
			if k >= 0 && k < 3 {
				continue
			}
			for _, n := range []int{least, -1, 0, 1, greatest} {
				p.arm(t, k, n)
			}
		}
		for k := range 3 {
			p.arm(t, k, -1)
			p.arm(t, k, least)
		}
		for _, m := range named(3) {
			p.asks(t, 0, m.Name, "PUT", "/uploads/a", "x", 200)
		}
		p.arm(t, 1, 0)
		p.arm(t, 1, 4)
		p.arm(t, 1, -1)
		p.arm(t, 2, greatest)
		p.asks(t, 0, "b", "PUT", "/uploads/a", "x", 200)
		p.asks(t, 0, "b", "PUT", "/uploads/a", "x", 200)
		p.asks(t, 0, "b", "PUT", "/uploads/a", "x", 503)
		p.arm(t, 1, 100)
		p.asks(t, 0, "b", "PUT", "/uploads/a", "x", 503)
		for range 20 {
			p.asks(t, 0, "a", "PUT", "/uploads/a", "x", 200)
			p.asks(t, 0, "c", "PUT", "/uploads/a", "x", 200)
		}
		p.stands(t)
		p.crash(t, nil, -1)
		p.asks(t, 0, "b", "PUT", "/uploads/a", "x", 200)
		p.stands(t)
	}
}

// choices goes through what a crash may keep of n open writes: all ways, if they are few; else nothing, all, each one alone, all but each one; also lists that are too short and too long.
func choices(n int, f func(keep []bool)) {
	f(nil)
	f(slices.Repeat([]bool{true}, n+5))
	if n <= 3 {
		for set := range 1 << n {
			keep := make([]bool, n)
			for k := range keep {
				keep[k] = set>>k&1 == 1
			}
			f(keep)
		}
		return
	}
	for k := range n {
		keep := make([]bool, n+k%2)
		keep[k] = true
		f(keep)
		f(keep[:k+1])
		keep = slices.Repeat([]bool{true}, n)
		keep[k] = false
		f(keep)
		f(keep[:k+1])
	}
}

// deed is something that one member asks, or a turn.
type deed struct {
	name, method, target, body string
}

// lives answers what three members ask by turns; a deed without a name is a turn for each.
func lives() []deed {
	var l []deed
	for _, name := range []string{"a", "b", "c"} {
		l = append(l, deed{name, "PUT", "/uploads/set", histories()["set"]}, deed{name, "PUT", "/specs/cell", specs()["cell"]})
	}
	for _, name := range []string{"b", "a", "c"} {
		l = append(l, deed{name, "POST", "/histories/set", ""}, deed{name, "POST", "/jobs/set/cell", ""}, deed{name, "PUT", "/uploads/long", strings.Repeat("x", 300)})
	}
	return append(l, deed{}, deed{"b", "POST", "/jobs/set/cell", ""}, deed{})
}

// P24.4: a crash behind each row of deeds, with the power of one disk off at each step, with each choice of what is kept: what was told 200 is there, and perhaps the one that was under way; the other members have just what they had.
func TestCrashKeeps(t *testing.T) {
	met := map[string]int{}
	for member := range 3 {
		for arm, more := 0, true; more; arm += 1 + member%2 {
			p, _ := lived(t, member, arm)
			more = p.disks[member].Off()
			choices(p.disks[member].Open(), func(keep []bool) {
				p, was := lived(t, member, arm)
				p.crash(t, keep, -1)
				p.stands(t)
				for k := range 3 {
					got := has(p.s.Tenant(k))
					if k != member && got != was[k][0] {
						t.Fatalf("member %d, armed %d, kept %v: %d has %s, not %s", member, arm, keep, k, got, was[k][0])
					}
					if k == member && !slices.Contains(was[k], got) {
						t.Fatalf("member %d, armed %d, kept %v: it has %s, not %q", member, arm, keep, got, was[k])
					}
					if k == member {
						met[fmt.Sprint(got == was[k][0])]++
					}
				}
				p.goesOn(t)
			})
		}
	}
	often(t, met, 10, "true", "false")
}

// lived lets three members live, the disk of one going off behind so many steps; the row ends there. It answers what each one has, as it was told, and of the one whose disk went off also what it would have with what was under way.
func lived(t *testing.T, member, arm int) (*pair, [3][]string) {
	t.Helper()
	p, q := made(t, named(3), 60), made(t, named(3), 60) // q is without a crash
	p.arm(t, member, arm)
	var was [3][]string
	for _, x := range lives() {
		for k := range was {
			was[k] = []string{has(p.s.Tenant(k))}
		}
		p.lives(t, x)
		q.lives(t, x)
		if p.disks[member].Off() {
			for k := range was {
				was[k] = []string{has(p.s.Tenant(k))}
			}
			was[member] = append(was[member], has(q.s.Tenant(member)))
			return p, was
		}
	}
	for k := range was {
		was[k] = []string{has(p.s.Tenant(k))}
	}
	return p, was
}

// lives does a deed.
func (p *pair) lives(t *testing.T, x deed) {
	t.Helper()
	if x.name == "" {
		for range 3 {
			p.pick(t, 100)
		}
		return
	}
	p.hear(t, 0, ask(x.method, x.target, p.mine(x.name), x.body))
}

// goesOn asks that all goes on behind a crash: each connection hears, each member is served, the first one's turn comes first.
func (p *pair) goesOn(t *testing.T) {
	t.Helper()
	for k := range conns {
		m := p.w.members[k%len(p.w.members)]
		p.asks(t, k, m.Name, "GET", "/usage", "", 200)
	}
	for k := range p.w.members {
		if at, _, _ := p.pick(t, 100); at != k {
			t.Fatalf("turn %d: %d", k, at)
		}
	}
	for _, m := range p.w.members {
		p.asks(t, 0, m.Name, "PUT", "/uploads/more", "x", 200)
	}
	p.stands(t)
}

// P24.4: a crash at rest changes nothing of what tenants have, once and again, whatever is kept.
func TestCrashAtRest(t *testing.T) {
	for _, deeds := range []bool{false, true} {
		p := made(t, named(3), 300)
		p.deeds = deeds
		for _, x := range lives() {
			p.lives(t, x)
		}
		var was []string
		for k := range 3 {
			was = append(was, has(p.s.Tenant(k)))
		}
		for _, keep := range [][]bool{nil, {}, {true}, {false, true}, make([]bool, 1000), slices.Repeat([]bool{true}, 1000)} {
			for _, n := range []int{-1, least, 0, 1, 100, greatest} {
				p.crash(t, keep, n)
				for k := range 3 {
					if p.s.Tenant(k) == nil || has(p.s.Tenant(k)) != was[k] {
						t.Fatalf("Crash(%v, %d): member %d is another one", keep, n, k)
					}
				}
				p.stands(t)
			}
		}
		p.crash(t, nil, -1)
		p.goesOn(t)
	}
}

// P24.4: if n is 0 or more, each disk has n steps behind the crash; below 0 there is no end, and what was armed ahead of it does not count any more.
func TestCrashArms(t *testing.T) {
	for _, deeds := range []bool{false, true} {
		for n := -3; n < 9; n++ {
			p := made(t, named(4), 60)
			p.deeds = deeds
			p.arm(t, 0, 0)
			p.arm(t, 1, 3)
			p.arm(t, 2, 100)
			p.asks(t, 0, "a", "PUT", "/uploads/a", "x", 503)
			p.crash(t, nil, n)
			for round := range 5 {
				for _, m := range named(4) {
					p.asks(t, 0, m.Name, "PUT", "/uploads/a", "x", map[bool]int{true: 503, false: 200}[n >= 0 && 2*round+2 > n])
				}
			}
			p.stands(t)
			p.crash(t, nil, n)
			p.arm(t, 3, 100)
			for round := range 3 {
				p.asks(t, 0, "d", "PUT", "/uploads/a", "x", 200)
				p.asks(t, 0, "c", "PUT", "/uploads/a", "x", map[bool]int{true: 503, false: 200}[n >= 0 && 2*round+2 > n])
			}
			p.stands(t)
		}
	}
}

// P24.4: who is down is seen anew: a tenant whose disk goes off while it is opened is down behind the crash, and up behind the next one.
func TestCrashDown(t *testing.T) {
	for _, deeds := range []bool{false, true} {
		for n := -1; n < 7; n++ {
			p := made(t, named(3), 60)
			p.deeds = deeds
			p.asks(t, 0, "b", "PUT", "/uploads/a", "x", 200)
			was := has(p.s.Tenant(1))
			p.arm(t, 1, 3)
			p.asks(t, 0, "b", "PUT", "/uploads/long", strings.Repeat("x", 400), 503)
			p.crash(t, []bool{true, true, true}, n)
			// Three sectors are to be written with noughts, and then there is a Sync.
			down := n >= 0 && n < 4
			for k := range 3 {
				if p.s.Down(k) != (down && k == 1) || (p.s.Tenant(k) == nil) != (down && k == 1) {
					t.Fatalf("Crash with %d steps: member %d is down, or up", n, k)
				}
			}
			p.asks(t, 0, "b", "GET", "/usage", "", map[bool]int{true: 503, false: 200}[down])
			p.asks(t, 0, "b", "GET", "/none", "", 404)
			p.asks(t, 0, "c", "GET", "/usage", "", 200)
			for k := range 3 {
				if at, _, _ := p.pick(t, 5); at != k {
					t.Fatalf("turn %d: %d", k, at)
				}
			}
			p.stands(t)
			p.crash(t, []bool{true, false, true}, -1)
			if p.s.Down(1) || has(p.s.Tenant(1)) != was {
				t.Fatalf("Crash with %d steps, and again: down %t", n, p.s.Down(1))
			}
			p.goesOn(t)
		}
	}
}

// P24.4: who is down for another reason is up behind the crash just if its tenant can be opened then.
func TestCrashBroken(t *testing.T) {
	up := 0
	for _, b := range allBroken(t) {
		l := slices.Clone(named(3))
		l[1].Limits = b.lim
		one, two := b.disk(), b.disk()
		d, e := blankDisks(t, 3, 60), blankDisks(t, 3, 60)
		d[1], e[1] = one, two
		p := served(t, "key", l, d, e)
		for range 2 {
			p.crash(t, []bool{true}, -1)
			p.stands(t)
			if is := strings.HasPrefix(b.what, "a disk that is off"); p.s.Down(1) == is {
				t.Errorf("%s: down %t", b.what, p.s.Down(1))
			}
			if !p.s.Down(1) {
				up++
			}
		}
	}
	if up != 4 {
		t.Errorf("%d were up", up)
	}
}

// P24.4: all connections are new ones behind a crash: what came is forgotten, and those that heard nothing more hear again.
func TestCrashConns(t *testing.T) {
	for _, deeds := range []bool{false, true} {
		p := made(t, named(2), 60)
		p.deeds = deeds
		good := ask("GET", "/head", p.mine("a"), "")
		want := p.hear(t, 0, good)
		for at := range good {
			for k := range conns {
				if k%3 == 0 {
					p.tells(t, k, "\n", 400, "")
				} else {
					p.answers(t, k, good[:at], "")
				}
			}
			p.crash(t, []bool{true}, -1)
			for k := range conns {
				p.answers(t, k, good, want)
			}
		}
		p.stands(t)
	}
}

// P24.4: the next turn behind a crash is the first member's, whoever had the last one.
func TestCrashTurns(t *testing.T) {
	for _, deeds := range []bool{false, true} {
		for n := 1; n <= mostMembers; n++ {
			for turns := range 2*n + 1 {
				p := made(t, named(n), 60)
				for range turns {
					p.pick(t, 5)
				}
				p.deeds = deeds
				p.crash(t, nil, -1)
				p.deeds = false
				for k := range 2 * n {
					if at, _, _ := p.pick(t, 5); at != k%n {
						t.Fatalf("%d members, %d turns, a crash, turn %d: %d", n, turns, k, at)
					}
				}
			}
		}
	}
}

// P24.4: the time stays behind a crash, and tokens are good or not as they were.
func TestCrashTime(t *testing.T) {
	for _, now := range []int{0, 1, 8, 9, 10, mostTime} {
		p := made(t, named(2), 60)
		p.pass(t, now)
		for range 2 {
			p.crash(t, nil, -1)
			if p.s.Now() != now {
				t.Fatalf("%d, not %d", p.s.Now(), now)
			}
			p.hear(t, 0, ask("GET", "/usage", p.token9(), ""))
			b := p.hear(t, 0, ask("GET", "/usage", p.token9(), ""))
			if got := strings.HasPrefix(b, "HTTP/1.1 200"); got != (now < 9) {
				t.Errorf("at %d: %q", now, b)
			}
		}
	}
}

// P24.4: jobs that were not done begin anew behind a crash, and come to the same entries as without one.
func TestCrashJobs(t *testing.T) {
	r := rand.New(rand.NewSource(2405))
	for range 40 {
		p, q := made(t, named(2), 300), made(t, named(2), 300)
		for _, x := range []*pair{p, q} {
			for _, name := range []string{"a", "b"} {
				x.knows(t, name, "crowd", "echo")
				x.knows(t, name, "turn", "cell")
				for _, target := range []string{"/jobs/crowd/echo", "/jobs/turn/cell", "/jobs/crowd/cell", "/jobs/turn/echo"} {
					x.asks(t, 0, name, "POST", target, "", 200)
				}
			}
		}
		for range 10 {
			for range r.Intn(8) {
				p.pick(t, r.Intn(50))
			}
			p.crash(t, byChance(r, 4), -1)
			p.stands(t)
		}
		for range 8 {
			p.pick(t, greatest)
			q.pick(t, greatest)
		}
		for k := range 2 {
			if has(p.s.Tenant(k)) != has(q.s.Tenant(k)) || p.s.Tenant(k).Wants() {
				t.Fatalf("%s, not %s", has(p.s.Tenant(k)), has(q.s.Tenant(k)))
			}
		}
	}
}

// byChance answers what a crash keeps, by chance; now and then all of n, or nothing.
func byChance(r *rand.Rand, n int) []bool {
	switch r.Intn(4) {
	case 0:
		return nil
	case 1:
		return slices.Repeat([]bool{true}, n)
	}
	keep := make([]bool, r.Intn(n+1))
	for k := range keep {
		keep[k] = r.Intn(2) == 0
	}
	return keep
}

// P24.4: a tenant behind a crash is the one that its disk has, and what the elder one did is on it.
func TestCrashOpensAnew(t *testing.T) {
	p := made(t, named(2), 60)
	for k := range 4 {
		elder := p.s.Tenant(0)
		p.asks(t, 0, "a", "PUT", fmt.Sprintf("/uploads/a%d", k), "x", 200)
		p.crash(t, nil, -1)
		if p.s.Tenant(0) == elder {
			t.Fatal("the tenant is the elder one")
		}
		if got := held(p.s.Tenant(0).Store()); len(got) != k+1 || !maps.Equal(got, held(elder.Store())) {
			t.Fatalf("%q", got)
		}
	}
	// What is written on the disk beside the server is seen behind the crash alone.
	for _, d := range []*disk.Disk{p.disks[1], p.w.disks[1]} {
		must(t, d.Write(0, []byte("rotten")))
		must(t, d.Sync())
	}
	p.asks(t, 0, "b", "GET", "/usage", "", 200)
	p.crash(t, nil, -1)
	if !p.s.Down(1) || p.s.Down(0) {
		t.Errorf("down: %t, %t", p.s.Down(0), p.s.Down(1))
	}
	p.asks(t, 0, "b", "GET", "/usage", "", 503)
	p.stands(t)
}

// P24.4: a disk that the members of two places have together crashes and is armed all the same, and nothing panics.
func TestOneDisk(t *testing.T) {
	d, e := blankDisk(t, 60), blankDisk(t, 60)
	p := served(t, "key", named(2), []*disk.Disk{d, d}, []*disk.Disk{e, e})
	for range 3 {
		p.hear(t, 0, ask("PUT", "/uploads/a", p.mine("a"), "x")+ask("PUT", "/uploads/b", p.mine("b"), "y"))
		p.arm(t, 1, 1)
		p.hear(t, 0, ask("PUT", "/uploads/a", p.mine("a"), strings.Repeat("x", 200)))
		p.crash(t, []bool{true}, 7)
		p.pick(t, 3)
		p.crash(t, []bool{true}, -1)
		p.stands(t)
	}
}
