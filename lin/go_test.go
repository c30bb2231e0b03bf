package lin_test

import (
	"math"
	"testing"

	"inquest/api"
	"inquest/lin"
)

// wrong answers operations the last of which was told what nobody told it: no order is one.
func wrong(l []api.Op) []api.Op {
	l[len(l)-1].Ret = -1
	return l
}

// A few searches of which the tests know what comes of them.
func known() []struct {
	a   ask
	end api.Verdict
} {
	return []struct {
		a   ask
		end api.Verdict
	}{
		{ask{echo, 9, 99, line(5)}, api.Verdict{Kind: api.Fits, Order: rising(5), Tries: 5}},
		{ask{echo, 9, 5, line(5)}, api.Verdict{Kind: api.Fits, Order: rising(5), Tries: 5}},
		{ask{echo, 9, 4, line(5)}, api.Verdict{Kind: api.OutTry, Tries: 4}},
		{ask{echo, 9, 1, line(5)}, api.Verdict{Kind: api.OutTry, Tries: 1}},
		{ask{echo, 9, 99, turned(line(5))}, api.Verdict{Kind: api.Fits, Order: falling(5), Tries: 5}},
		{ask{echo, 9, 99, wrong(line(5))}, api.Verdict{Kind: api.FitsNot, Tries: 5}},
		{ask{echo, 9, 5, wrong(line(5))}, api.Verdict{Kind: api.FitsNot, Tries: 5}},
		{ask{echo, 9, 4, wrong(line(5))}, api.Verdict{Kind: api.OutTry, Tries: 4}},
		// Each of 8 sets of the first three, and each that is not in it.
		{ask{echo, 9, 99, wrong(crowd(4))}, api.Verdict{Kind: api.FitsNot, Tries: 20}},
		{ask{echo, 9, 20, wrong(crowd(4))}, api.Verdict{Kind: api.FitsNot, Tries: 20}},
		{ask{echo, 9, 19, wrong(crowd(4))}, api.Verdict{Kind: api.OutTry, Tries: 19}},
		{ask{stuck, 9, 99, append(line(5), done(1, 0, 0, 10, 11))}, api.Verdict{Kind: api.OutFuel, Tries: 6}},
		{ask{stuck, 9, 6, append(line(5), done(1, 0, 0, 10, 11))}, api.Verdict{Kind: api.OutFuel, Tries: 6}},
		{ask{stuck, 9, 5, append(line(5), done(1, 0, 0, 10, 11))}, api.Verdict{Kind: api.OutTry, Tries: 5}},
		{ask{echo, 9, 99, line(64)}, api.Verdict{Kind: api.Fits, Order: rising(64), Tries: 64}},
	}
}

// P18.2: Go does at most as many tries as it is told, Tries tells how many were done, Go answers as Over, and the search is over with the last try that it needs.
func TestGo(t *testing.T) {
	for _, k := range known() {
		for n := range k.end.Tries + 3 {
			x, _ := k.a.task()
			stands(t, k.a, x, 0, k.end)
			goes(t, k.a, x, n, k.end)
			for m := range 4 {
				goes(t, k.a, x, m, k.end)
			}
		}
		judged(t, k.a)
	}
}

// P18.2: Go by 0 and below does no try, also where none was done yet, and between others.
func TestGoByNone(t *testing.T) {
	for _, k := range known() {
		x, _ := k.a.task()
		for range k.end.Tries + 2 {
			for _, n := range []int{0, -1, -2, math.MinInt, math.MinInt + 1, -1 << 32, 0} {
				was := x.Tries()
				if over := x.Go(n); over != x.Over() || x.Tries() != was {
					t.Fatalf("%+v: Go(%d): %v, %d tries, not %d", k.a, n, over, x.Tries(), was)
				}
			}
			goes(t, k.a, x, 1, k.end)
		}
	}
}

// P18.2: Go by more than is due does what is due.
func TestGoByMany(t *testing.T) {
	for _, k := range known() {
		for _, n := range []int{99, 1000, 1 << 31, 1 << 32, math.MaxInt - 1, math.MaxInt} {
			x, _ := k.a.task()
			goes(t, k.a, x, n, k.end)
			x, _ = k.a.task()
			goes(t, k.a, x, 1, k.end)
			goes(t, k.a, x, n, k.end)
		}
	}
}

// P18.2: of a task that is over nothing changes any more.
func TestOver(t *testing.T) {
	for _, k := range known() {
		x, _ := k.a.task()
		x.Go(math.MaxInt)
		for _, n := range []int{0, 1, -1, 5, math.MinInt, math.MaxInt, 2} {
			if !x.Go(n) {
				t.Fatalf("%+v: Go(%d): it is not over any more", k.a, n)
			}
			stands(t, k.a, x, k.end.Tries, k.end)
		}
	}
	x, _ := ask{echo, 9, 99, nil}.task()
	for _, n := range []int{0, 1, -1, math.MinInt, math.MaxInt} {
		goes(t, ask{}, x, n, api.Verdict{Kind: api.Fits})
	}
}

// P18.2: over as soon as what comes of it is known without a further try: with the last try that fits, of the first position, that the budget allows.
func TestAsSoonAs(t *testing.T) {
	last := func(a ask, kind, tries int) {
		t.Helper()
		x, e := a.task()
		if e != api.OK || x.Over() || tries > 1 && x.Go(tries-1) || x.Over() {
			t.Fatalf("%+v: error %d, over behind %d tries", a, e, x.Tries())
		}
		if !x.Go(1) || !x.Over() || x.Tries() != tries {
			t.Fatalf("%+v: not over behind %d tries", a, x.Tries())
		}
		if v, ok := x.Verdict(); !ok || v.Kind != kind || v.Tries != tries {
			t.Errorf("%+v: %+v, %v", a, v, ok)
		}
	}
	// The last try that fits, with others that could be tried behind it.
	last(ask{echo, 9, 99, line(1)}, api.Fits, 1)
	last(ask{echo, 9, 99, append(line(3), open(0, 0, 0), open(0, 0, 9))}, api.Fits, 3)
	last(ask{echo, 9, 3, line(3)}, api.Fits, 3)
	// The last try of the first position, of which nothing comes; with one that is never due.
	last(ask{echo, 9, 99, wrong(line(1))}, api.FitsNot, 1)
	last(ask{echo, 9, 99, append(wrong(line(1)), done(0, 0, 0, 7, 8))}, api.FitsNot, 1)
	last(ask{echo, 9, 99, append([]api.Op{done(0, 0, 0, 7, 8)}, wrong(line(1))...)}, api.FitsNot, 1)
	last(ask{echo, 9, 99, wrong(crowd(2))}, api.FitsNot, 3)
	last(ask{picky, 9, 99, []api.Op{done(1, 0, 0, 0, 1)}}, api.FitsNot, 1)
	// The last try that the budget allows: no other is due; another one is.
	last(ask{echo, 9, 3, wrong(crowd(2))}, api.FitsNot, 3)
	last(ask{echo, 9, 2, wrong(crowd(2))}, api.OutTry, 2)
	last(ask{echo, 9, 1, wrong(crowd(2))}, api.OutTry, 1)
	last(ask{echo, 9, 1, crowd(2)}, api.OutTry, 1)
	last(ask{echo, 9, 1, wrong(line(1))}, api.FitsNot, 1)
	// The last try that the budget allows lacks fuel.
	last(ask{echo, 1, 1, line(1)}, api.OutFuel, 1)
	last(ask{echo, 1, 2, line(2)}, api.OutFuel, 1)
	// The try by which a position is met that the search was at.
	last(ask{echo, 9, 8, wrong(crowd(3))}, api.FitsNot, 8)
}

// P18.2: with a budget of 0 it is known without any try.
func TestNoBudget(t *testing.T) {
	for _, ops := range [][]api.Op{line(1), line(64), crowd(64), wrong(line(1)), append(opened(line(5)), done(0, 0, 0, 0, 99))} {
		for _, fuel := range []int{0, 9, mostFuel} {
			a := ask{echo, fuel, 0, ops}
			x, e := a.task()
			if e != api.OK {
				t.Fatal(e)
			}
			end := api.Verdict{Kind: api.OutTry}
			stands(t, a, x, 0, end)
			for _, n := range []int{0, -1, 1, math.MaxInt} {
				goes(t, a, x, n, end)
			}
		}
	}
}

// P18.2, R1: of a task that New did not make: false, 0, the zero verdict.
func TestNoTask(t *testing.T) {
	var none *lin.Task
	var zero lin.Task
	failed, _ := lin.New(nil, 0, 0, nil)
	for _, x := range []*lin.Task{none, failed, &zero, {}, new(lin.Task)} {
		for range 2 {
			for _, n := range []int{0, 1, -1, 99, math.MinInt, math.MaxInt} {
				if x.Go(n) {
					t.Errorf("Go(%d) of %v", n, x)
				}
			}
			if x.Over() || x.Tries() != 0 {
				t.Errorf("%v: over %v, %d tries", x, x.Over(), x.Tries())
			}
			if v, ok := x.Verdict(); ok || !same(v, api.Verdict{}) {
				t.Errorf("%v: %v, %v", x, v, ok)
			}
		}
	}
}

// P18.2: the Order of a verdict that is not Fits is empty, wherever the search was.
func TestNoOrder(t *testing.T) {
	for _, k := range known() {
		x, _ := k.a.task()
		x.Go(math.MaxInt)
		if v, _ := x.Verdict(); (len(v.Order) > 0) != (v.Kind == api.Fits) {
			t.Errorf("%+v: %+v", k.a, v)
		}
	}
}
