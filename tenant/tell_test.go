package tenant_test

import (
	"encoding/hex"
	"fmt"
	"strings"
	"testing"

	"inquest/api"
	"inquest/ledger"
	"inquest/merkle"
)

// filled answers a tenant with so many entries, all of whose verdicts are among them, and so many jobs that wait.
func filled(t *testing.T, done, waits int) pair {
	t.Helper()
	p := made(t, wide, 3000)
	p.knows(t)
	hs, ss := sorted(p.w.histories), []string{"cell", "echo", "none", "ever", "cell"}
	for n := range done + waits {
		p.anew(t, api.Limits{Quota: 1 << 30, Queue: mostWait, Fuel: 60, Budget: []int{mostTries, 3}[n/8%2]})
		p.submits(t, asked{hs[n%len(hs)], ss[n%len(ss)], n * n * n * n * n})
		if n < done {
			p.all(t)
		}
	}
	return p
}

// far are numbers that no tenant has.
func far() []int {
	return []int{least, least + 1, -1 << 32, -64, -2, -1, 64, 65, 100, 255, 256, 1 << 32, 1 << 62, greatest - 1, greatest}
}

// P22.2: each job, waiting and done, and what is none.
func TestJob(t *testing.T) {
	for _, x := range [][2]int{{0, 0}, {0, 1}, {1, 0}, {3, 2}, {0, 8}, {56, 8}, {63, 1}, {64, 0}} {
		p := filled(t, x[0], x[1])
		for n := range 67 {
			code := p.do(t, api.Ask{Kind: api.AJob, A: n}, 0)
			if want := map[bool]int{true: 200, false: 404}[n < x[0]+x[1]]; code != want {
				t.Errorf("job %d of %v: %d", n, x, code)
			}
		}
		for _, n := range far() {
			p.tells(t, api.Ask{Kind: api.AJob, A: n, B: 1, Name: "set"}, 0, 404, "")
		}
	}
}

// P22.2: what is told of each verdict.
func TestJobLines(t *testing.T) {
	p := made(t, api.Limits{Quota: 1 << 30, Queue: mostWait, Fuel: 6, Budget: 300}, 1000)
	p.knows(t)
	for n, x := range []struct{ history, spec, line string }{
		{"empty", "cell", "fits 0 -"},
		{"open", "ever", "fits 0 -"},
		{"set", "cell", "fits 1 0"},
		{"turn", "cell", "fits 4 1,0"},
		{"crowd", "echo", "fits 6 0,1,2,3,4,5"},
		{"late", "cell", "fits-not 2 -"},
		{"crowd", "none", "fits-not 6 -"},
		{"turn", "ever", "out-of-fuel 1 -"},
		{"great", "echo", "out-of-tries 300 -"},
	} {
		p.submits(t, asked{x.history, x.spec, 5})
		p.tells(t, api.Ask{Kind: api.AJob, A: n}, 0, 200, "waiting")
		p.all(t)
		p.tells(t, api.Ask{Kind: api.AJob, A: n}, 0, 200, "done "+x.line)
	}
	p.stands(t)
}

// P22.2: the head of all, and of each number of entries; 404 of all other numbers.
func TestHeads(t *testing.T) {
	for _, done := range []int{0, 1, 2, 3, 7, 8, 9, mostJobs} {
		p := filled(t, done, 0)
		p.do(t, api.Ask{Kind: api.ACurrent, A: greatest, B: -1}, 0)
		for n := -1; n <= done+1; n++ {
			code := p.do(t, api.Ask{Kind: api.AHead, A: n, B: greatest}, 0)
			if want := map[bool]int{true: 200, false: 404}[n >= 0 && n <= done]; code != want {
				t.Errorf("head %d of %d: %d", n, done, code)
			}
		}
		if a, b := p.x.Do(api.Ask{Kind: api.ACurrent}, 0), p.x.Do(api.Ask{Kind: api.AHead, A: done}, 0); string(a.Body) != string(b.Body) {
			t.Errorf("%q, %q", a.Body, b.Body)
		}
		for _, n := range append(far(), done+1) {
			if n != mostJobs || done < mostJobs {
				p.tells(t, api.Ask{Kind: api.AHead, A: n}, 0, 404, "")
			}
		}
	}
}

// P22.2: entries and growths of all pairs of numbers.
func TestProofs(t *testing.T) {
	for _, done := range []int{0, 1, 2, 3, 4, 5, 8, 9, mostJobs} {
		p := filled(t, done, 0)
		p.proves(t)
		for _, x := range far() {
			for _, n := range []int{x, 0, 1, done} {
				p.do(t, api.Ask{Kind: api.AEntry, A: x, B: n}, 0)
				p.do(t, api.Ask{Kind: api.AEntry, A: n, B: x}, 0)
				p.do(t, api.Ask{Kind: api.AGrowth, A: x, B: n}, 0)
				p.do(t, api.Ask{Kind: api.AGrowth, A: n, B: x}, 0)
			}
		}
	}
}

// P22.2: where nothing is to be told of a growth, it is 200 and an empty body.
func TestGrowthOfNothing(t *testing.T) {
	p := filled(t, 5, 1)
	for n := 1; n <= 5; n++ {
		p.tells(t, api.Ask{Kind: api.AGrowth, A: n, B: n}, 0, 200, "")
	}
	p.tells(t, api.Ask{Kind: api.AGrowth, A: 0, B: 5}, 0, 404, "")
	p.tells(t, api.Ask{Kind: api.AGrowth, A: 6, B: 6}, 0, 404, "")
	p.tells(t, api.Ask{Kind: api.AEntry, A: 5, B: 6}, 0, 404, "")
	p.tells(t, api.Ask{Kind: api.AEntry, A: 5, B: 5}, 0, 404, "")
}

// digests answers what lines of letters say.
func digests(t *testing.T, lines []string) []api.Digest {
	t.Helper()
	var l []api.Digest
	for _, s := range lines {
		b, err := hex.DecodeString(s)
		if err != nil || len(b) != 32 || strings.ToLower(s) != s {
			t.Fatalf("%q", s)
		}
		l = append(l, api.Digest(b))
	}
	return l
}

// P22.2: what is told shows that it is so: heads are signed, entries are in them, heads begin with one another.
func TestProofsAreTaken(t *testing.T) {
	p := filled(t, 11, 2)
	var roots []api.Digest
	for n := range 12 {
		pieces := strings.Split(string(p.x.Do(api.Ask{Kind: api.AHead, A: n}, 0).Body), " ")
		l := digests(t, pieces[1:])
		h := api.Head{Size: n, Root: l[0], Chain: l[1], Sign: l[2]}
		if pieces[0] != fmt.Sprint(n) || len(l) != 3 || !ledger.Signed([]byte("key"), h) {
			t.Fatalf("head %d: %q", n, pieces)
		}
		roots = append(roots, h.Root)
		for i := range n {
			lines := strings.Split(string(p.x.Do(api.Ask{Kind: api.AEntry, A: i, B: n}, 0).Body), "\n")
			b, _ := hex.DecodeString(lines[0])
			if !merkle.CheckPath(h.Root, n, i, merkle.Leaf(b, 256), digests(t, lines[1:]), 256) {
				t.Fatalf("entry %d of %d: %q", i, n, lines)
			}
			growth := strings.Fields(string(p.x.Do(api.Ask{Kind: api.AGrowth, A: i + 1, B: n}, 0).Body))
			if !merkle.CheckGrowth(roots[i+1], i+1, h.Root, n, digests(t, growth), 256) {
				t.Fatalf("growth %d of %d: %q", i+1, n, growth)
			}
		}
	}
}

// P22.2: the usage behind every row of calls.
func TestUsage(t *testing.T) {
	lim := api.Limits{Quota: 777, Queue: 3, Fuel: 60, Budget: 99}
	p := made(t, lim, 300)
	usage := api.Ask{Kind: api.AUsage, A: 5, Name: "x"}
	p.tells(t, usage, -1, 200, "0 777 0 0")
	p.done(t, api.Ask{Kind: api.APut, Name: "abc"})
	p.tells(t, usage, 0, 200, "5 777 0 0")
	p.done(t, api.Ask{Kind: api.APut, Name: "abc", Body: histories()["set"]})
	p.tells(t, usage, 0, 200, "11 777 0 0")
	p.done(t, api.Ask{Kind: api.ASeal, Name: "abc"})
	p.tells(t, usage, 0, 200, "11 777 0 0")
	p.done(t, api.Ask{Kind: api.ASpec, Name: "s", Body: []byte{1, 19}})
	p.tells(t, usage, 0, 200, "16 777 0 0")
	p.submits(t, asked{"abc", "s", 5}, asked{"abc", "s", mostTime})
	p.tells(t, usage, 0, 200, "344 777 2 0")
	p.step(t, 0)
	p.tells(t, usage, 0, 200, "344 777 2 0")
	p.step(t, 1)
	p.tells(t, usage, 0, 200, "253 777 1 1") // 4 and 69 bytes in the stead of 164
	p.anew(t, lim)
	p.tells(t, usage, 0, 200, "253 777 1 1")
	p.all(t)
	p.tells(t, usage, 0, 200, "167 777 0 2") // 4 and 74 bytes, as the time has six
	lim.Quota = greatest
	p.anew(t, lim)
	p.tells(t, usage, 0, 200, "167 9223372036854775807 0 2")
}
