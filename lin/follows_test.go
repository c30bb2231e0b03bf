package lin_test

import (
	"math"
	"math/rand"
	"testing"

	"inquest/api"
	"inquest/lin"
)

// pieces goes through a search by pieces, and asks for what it tells behind each.
func pieces(t *testing.T, a ask, end api.Verdict, next func() int) {
	t.Helper()
	x, e := a.task()
	if e != api.OK {
		t.Fatal(e)
	}
	stands(t, a, x, 0, end)
	for !x.Over() {
		goes(t, a, x, next(), end)
	}
	goes(t, a, x, next(), end)
}

// searches answers asks that New takes, of all kinds.
func searches(r *rand.Rand, n int) []ask {
	var l []ask
	for _, k := range known() {
		l = append(l, k.a)
	}
	for len(l) < n {
		a := lawful(r, length(r))
		for range r.Intn(5) {
			if len(a.l) > 0 {
				spoil(r, &a)
			}
		}
		if _, e := a.task(); e == api.OK {
			l = append(l, a)
		}
	}
	return l
}

// P18.5: in whatever pieces it goes, the verdict is the same, and so is all on the way.
func TestPieces(t *testing.T) {
	r := rand.New(rand.NewSource(190))
	met := map[int]int{}
	for _, a := range searches(r, 4000) {
		end, _ := judged(t, a)
		met[end.Kind]++
		for _, n := range []int{1, 2, 3, 7, math.MaxInt} {
			pieces(t, a, end, func() int { return n })
		}
		turn := 0
		pieces(t, a, end, func() int { turn++; return turn % 2 }) // 0 between
		pieces(t, a, end, func() int { turn++; return []int{1, -1, math.MinInt, 2}[turn%4] })
		pieces(t, a, end, func() int { return r.Intn(5) })
		pieces(t, a, end, func() int { return r.Intn(50) - 10 })
	}
	often(t, met, 100, kinds...)
}

// P18.5: all pieces that there are of a short search: each row of them that adds up.
func TestAllPieces(t *testing.T) {
	for _, a := range []ask{
		{echo, 9, 99, wrong(crowd(3))}, // 8 tries
		{echo, 9, 6, wrong(crowd(3))},
		{cell, 9, 99, []api.Op{open(1, 5, 0), done(0, 0, 0, 1, 2), done(0, 0, 5, 3, 4)}},
		{stuck, 9, 99, append(wrong(crowd(2)), open(1, 0, 0))},
	} {
		end, _ := judged(t, a)
		for cuts := range 1 << 8 {
			x, _ := a.task()
			n := 0
			for at := range 8 {
				n++
				if cuts>>at&1 == 1 {
					goes(t, a, x, n, end)
					n = 0
				}
			}
			goes(t, a, x, n+1, end)
			stands(t, a, x, end.Tries, end)
		}
	}
}

// P18.5: with a budget of as many tries as were done the verdict is the same, with fewer it is OutTry with as many as the budget says; with more nothing changes but OutTry.
func TestBudgets(t *testing.T) {
	r := rand.New(rand.NewSource(191))
	met := map[int]int{}
	for _, a := range searches(r, 2000) {
		end, _ := judged(t, a)
		met[end.Kind]++
		same := a.within(end.Tries)
		tells(t, same, end.Kind, end.Tries, end.Order...)
		for _, less := range []int{0, 1, 2, end.Tries / 2, end.Tries - 2, end.Tries - 1} {
			if less >= 0 && less < end.Tries {
				tells(t, a.within(less), api.OutTry, less)
			}
		}
		if end.Kind == api.OutTry {
			if v, _ := judged(t, a.within(end.Tries+1)); v.Tries != end.Tries+1 {
				t.Fatalf("%+v: %+v, and then %+v", a, end, v)
			}
			continue
		}
		for _, more := range []int{end.Tries + 1, end.Tries + 99, mostTries} {
			tells(t, a.within(more), end.Kind, end.Tries, end.Order...)
		}
	}
	often(t, met, 50, kinds...)
}

// P18.5: each budget of a few searches, from none on.
func TestEachBudget(t *testing.T) {
	for _, a := range []ask{
		{echo, 9, mostTries, wrong(crowd(5))},
		{keep(2), 9, mostTries, wrong(told(crowd(4), 0))},
		{tally, 9, mostTries, []api.Op{done(0, 100, 1110, 0, 9), done(0, 10, 1010, 0, 9), done(0, 1, 1111, 0, 9), done(0, 1000, 1000, 0, 9)}},
		{stuck, 9, mostTries, append(wrong(crowd(4)), open(1, 0, 0))},
		{echo, 9, mostTries, line(64)},
	} {
		end, _ := judged(t, a)
		for budget := range end.Tries + 3 {
			if budget < end.Tries {
				tells(t, a.within(budget), api.OutTry, budget)
			} else {
				tells(t, a.within(budget), end.Kind, end.Tries, end.Order...)
			}
		}
	}
}

// P18.5: with a budget of at least Enough it never is OutTry: also where each row is another position.
func TestEnoughIsEnough(t *testing.T) {
	r := rand.New(rand.NewSource(192))
	met := map[int]int{}
	for range 4000 {
		a := lawful(r, r.Intn(5))
		a.fuel -= r.Intn(min(4, a.fuel+1))
		for range r.Intn(3) {
			if len(a.ops) > 0 {
				spoilOne(r, &a.ops[r.Intn(len(a.ops))])
			}
		}
		for _, more := range []int{0, 1, 1000} {
			v, e := judged(t, a.within(lin.Enough(len(a.ops))+more))
			if e == api.OK && v.Kind == api.OutTry {
				t.Fatalf("%+v: %+v", a, v)
			}
			met[v.Kind]++
		}
	}
	often(t, met, 300, api.Fits, api.FitsNot, api.OutFuel)
	// The cells say the row, all but the last one of which fits nowhere: as many tries as there are rows of which the last one stands at the end, or not at all.
	row := []api.Ins{load(0), push(10), do(api.IMul), arg, add, store(0), push(0), answer}
	for n := 1; n <= 8; n++ {
		a := ask{row, 9, lin.Enough(n), wrong(told(crowd(n), 0))}
		tells(t, a, api.FitsNot, 2*lin.Enough(n-1)+1)
	}
	// None of which fits: all but the first places of rows are not tried.
	for n := 1; n <= 8; n++ {
		tells(t, ask{row, 9, lin.Enough(n), told(crowd(n), -1)}, api.FitsNot, n)
	}
}

// P18.5: a beginning of a history that fits fits, each beginning of it.
func TestBeginnings(t *testing.T) {
	r := rand.New(rand.NewSource(193))
	met := map[int]int{}
	for range 5000 {
		l := events(r, r.Intn(13), 1+r.Intn(4))
		for _, code := range [][]api.Ins{cell, tally, lock, hidden, trade(3)} {
			fits := true
			for n := range len(l) + 1 {
				v, _ := judged(t, ask{code, 20, mostTries, operations(t, l[:n])})
				met[v.Kind]++
				if v.Kind == api.Fits && !fits {
					t.Fatalf("%v: %d of it fit, and fewer did not", l, n)
				}
				fits = v.Kind == api.Fits
			}
		}
	}
	often(t, met, 5000, api.Fits, api.FitsNot)
}

// P18.5: each beginning of a long history that fits.
func TestLongBeginnings(t *testing.T) {
	r := rand.New(rand.NewSource(194))
	for range 20 {
		l := longEvents(r, 1+r.Intn(4))
		for n := range len(l) + 1 {
			x, e := ask{cell, 20, mostTries, operations(t, l[:n])}.task()
			if e != api.OK || !x.Go(mostTries) {
				t.Fatal(e)
			}
			if v, _ := x.Verdict(); v.Kind != api.Fits {
				t.Fatalf("%v: %d of it: %+v", l, n, v)
			}
		}
	}
}
