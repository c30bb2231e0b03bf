package queue_test

import (
	"math/rand"
	"slices"
	"testing"

	"inquest/api"
	"inquest/queue"
)

// P19.3: jobs go in the order in which they came, whatever is put between.
func TestInOrder(t *testing.T) {
	r := rand.New(rand.NewSource(192))
	for most := 1; most <= mostJobs; most++ {
		for range 200 {
			p := made(t, most)
			jobs := r.Perm(40)
			var went []int
			for at := 0; len(went) < len(jobs); {
				if at < len(jobs) && r.Intn(2) == 0 {
					if p.put(t, jobs[at]) == api.OK {
						at++
					}
				} else if job, ok := p.q.First(); ok {
					p.ends(t, job, api.OK)
					went = append(went, job)
				}
			}
			if !slices.Equal(went, jobs) {
				t.Fatalf("%v came, %v went", jobs, went)
			}
		}
	}
}

// P19.3: so do those that are left, if some go out of their turn.
func TestInOrderOfTheRest(t *testing.T) {
	r := rand.New(rand.NewSource(193))
	for range 1000 {
		p := made(t, 1+r.Intn(mostJobs))
		var came, went []int // those that did not go out of their turn
		for next := 0; next < 50; {
			switch r.Intn(5) {
			case 0, 1:
				if p.put(t, next) == api.OK {
					came = append(came, next)
					next++
				}
			case 2:
				if job, ok := p.q.First(); ok {
					p.ends(t, job, api.OK)
					went = append(went, job)
				}
			case 3:
				p.done(t, next+r.Intn(3))
			case 4:
				if n := p.q.Len(); n > 1 {
					job := p.q.Waiting()[1+r.Intn(n-1)]
					p.ends(t, job, api.OK)
					came = slices.DeleteFunc(came, func(x int) bool { return x == job })
				}
			}
		}
		if !slices.Equal(went, came[:len(went)]) {
			t.Fatalf("%v came, %v went", came, went)
		}
		holds(t, p.q, came[len(went):])
	}
}

// has tells whether a place has a turn within so many, if each one that had one is the next last; the place wants one all the time, the others as wants says it of each turn.
func has(t *testing.T, at, last, turns int, wants func(turn int) []bool) bool {
	t.Helper()
	for k := range turns {
		l := wants(k)
		l[at] = true
		who, ok := queue.Turn(l, last)
		if !ok || !l[who] {
			t.Fatalf("Turn(%v, %d): %d, %v", l, last, who, ok)
		}
		if who == at {
			return true
		}
		last = who
	}
	return false
}

// P19.3: one that wants a turn all the time has one within as many turns as there are places, whatever the others want at each turn: all that few places may want.
func TestFair(t *testing.T) {
	for n := 1; n <= 4; n++ {
		for at := range n {
			for _, last := range lasts(n) {
				for all := range 1 << (n * (n - 1)) {
					// What the place itself wants is set, so the others' bits are enough.
					wants := func(k int) []bool {
						l := bits(n-1, all>>(k*(n-1)))
						return slices.Insert(l, at, true)
					}
					if !has(t, at, last, n, wants) {
						t.Fatalf("place %d of %d behind %d, wants %b", at, n, last, all)
					}
				}
			}
		}
	}
}

// P19.3: many places, wants by chance, that change at each turn or stay.
func TestFairByChance(t *testing.T) {
	r := rand.New(rand.NewSource(194))
	for range 20000 {
		n := 1 + r.Intn(20)
		rare := 1 + r.Intn(4)
		at, last := r.Intn(n), r.Intn(n+4)-2
		l := make([]bool, n)
		wants := func(k int) []bool {
			for i := range l {
				if k == 0 || r.Intn(rare) > 0 {
					l[i] = r.Intn(rare) == 0
				}
			}
			return l
		}
		if !has(t, at, last, n, wants) {
			t.Fatalf("place %d of %d behind %d", at, n, last)
		}
	}
}

// P19.3: as many turns are needed, where all want one all the time, and the one had the last: fewer are not enough.
func TestFairIsTight(t *testing.T) {
	for n := 1; n <= 20; n++ {
		wants := func(int) []bool { return slices.Repeat([]bool{true}, n) }
		for at := range n {
			if has(t, at, at, n-1, wants) || !has(t, at, at, n, wants) {
				t.Errorf("place %d of %d", at, n)
			}
		}
	}
}

// P19.3: where all that want a turn want it all the time each has as many, give or take one.
func TestRound(t *testing.T) {
	for n := 1; n <= 8; n++ {
		for b := 1; b < 1<<n; b++ {
			wants := bits(n, b)
			last, had := -1, make([]int, n)
			for k := range 5 * n {
				at, _ := turned(t, wants, last)
				if k > 0 && at == last && b != 1<<at {
					t.Fatalf("%v: %d twice", wants, at)
				}
				had[at]++
				last = at
			}
			low, high := 5*n, 0
			for at, x := range had {
				if wants[at] {
					low, high = min(low, x), max(high, x)
				} else if x > 0 {
					t.Fatalf("%v: %v", wants, had)
				}
			}
			if high-low > 1 {
				t.Fatalf("%v: %v", wants, had)
			}
		}
	}
}
