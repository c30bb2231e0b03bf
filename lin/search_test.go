package lin_test

import (
	"math"
	"testing"

	"inquest/api"
	"inquest/hist"
)

// at answers an operation of echo that is done, called and answered at these times.
func at(from, to int) api.Op { return done(0, 7, 7, from, to) }

// times are those that operations of a history have, and others.
var times = []int{math.MinInt, math.MinInt + 1, -1000, -2, -1, 0, 1, 2, 3, 126, 127, 128, 1 << 31, 1 << 32, math.MaxInt - 1, math.MaxInt}

// firstTry answers how many tries were done when place k was tried for the first time: it is stuck there. 0: it never is.
func firstTry(t *testing.T, ops []api.Op, k int) int {
	t.Helper()
	l := append([]api.Op{}, ops...)
	l[k].Op = 1
	v, e := judged(t, ask{stuck, 99, mostTries, l})
	if e != api.OK {
		t.Fatal(e)
	}
	if v.Kind != api.OutFuel {
		return 0
	}
	return v.Tries
}

// P18.1: the places are tried rising; those in the set are not tried again.
func TestRisingPlaces(t *testing.T) {
	for n := 1; n <= 12; n++ {
		// One that fits behind the other: with each the search goes on, and the first is never tried twice.
		for k := range n {
			if got := firstTry(t, crowd(n), k); got != k+1 {
				t.Errorf("%d of %d: try %d", k, n, got)
			}
			// Those ahead are told what nobody tells them: they are tried, all at the first position.
			if got := firstTry(t, told(crowd(n), -1), k); got != k+1 {
				t.Errorf("%d of %d: try %d", k, n, got)
			}
		}
	}
}

// P18.1: one is tried only where all that are before it are in the set, and as soon as they are.
func TestTimeForbids(t *testing.T) {
	for _, n := range []int{1, 2, 3, 7, 64} {
		// One behind the other: of the line that stands there the other way round the last is tried first.
		for k := range min(n, 7) {
			if got := firstTry(t, turned(line(n)), n-1-k); got != k+1 {
				t.Errorf("%d of %d: try %d", k, n, got)
			}
		}
		// Where nothing comes of the first, none behind it is ever tried.
		ops := line(n)
		ops[0].Ret = -1
		tells(t, ask{stuck, 99, 999, ops}, api.FitsNot, 1)
		for k := 1; k < min(n, 7); k++ {
			if got := firstTry(t, ops, k); got != 0 {
				t.Errorf("%d of %d: try %d", k, n, got)
			}
		}
	}
	// To the same as From: not before.
	tells(t, ask{echo, 9, 99, []api.Op{at(5, 9), at(0, 5)}}, api.Fits, 2, 0, 1)
	tells(t, ask{echo, 9, 99, []api.Op{at(5, 9), at(0, 4)}}, api.Fits, 2, 1, 0)
	tells(t, ask{echo, 9, 99, []api.Op{at(5, 9), at(0, 6)}}, api.Fits, 2, 0, 1)
}

// P18.1: two at any times, Done or not: the first is tried ahead of the second, unless that is before it.
func TestAnyTimes(t *testing.T) {
	for _, from := range times {
		for _, to := range times {
			for _, otherFrom := range times {
				for _, otherTo := range times {
					for set := range 4 {
						ops := []api.Op{at(from, to), at(otherFrom, otherTo)}
						ops[0].Done, ops[1].Done = set&1 == 0, set&2 == 0
						anyTwo(t, ops)
					}
				}
			}
		}
	}
}

// anyTwo asks for the verdict of two operations of echo.
func anyTwo(t *testing.T, ops []api.Op) {
	t.Helper()
	x, e := ask{echo, 2, 99, ops}.task()
	if hist.Before(ops[0], ops[0]) || hist.Before(ops[1], ops[1]) {
		if e != api.ErrOrder || x != nil {
			t.Fatalf("%+v: error %d", ops, e)
		}
		return
	}
	order := []int{0, 1}
	if hist.Before(ops[1], ops[0]) {
		order = []int{1, 0}
	}
	// It ends where all that are Done are in the set.
	for len(order) > 0 && !ops[order[len(order)-1]].Done {
		order = order[:len(order)-1]
	}
	x.Go(math.MaxInt)
	if v, ok := x.Verdict(); !ok || !same(v, api.Verdict{Kind: api.Fits, Order: order, Tries: len(order)}) {
		t.Fatalf("%+v: %+v, %v, not %v", ops, v, ok, order)
	}
}

// P18.1: one that has to wait for several waits for all of them.
func TestWaitsForAll(t *testing.T) {
	for n := 1; n < 7; n++ {
		ops := []api.Op{at(100, 101)}
		for k := range n {
			ops = append(ops, at(k, 50+k))
		}
		order := append(rising(n + 1)[1:], 0)
		tells(t, ask{echo, 9, 999, ops}, api.Fits, n+1, order...)
		if got := firstTry(t, ops, 0); got != n+1 {
			t.Errorf("%d: try %d", n, got)
		}
		// One of them that can't be put in keeps it out for ever.
		for k := range n {
			bad := append([]api.Op{}, ops...)
			bad[1+k].Ret = -1
			if got := firstTry(t, bad, 0); got != 0 {
				t.Errorf("%d of %d: try %d", k, n, got)
			}
		}
	}
}

// P18.1: one that is not Done is tried as well, at its place; it may be put in or not, and what it was told is any.
func TestOpenOnes(t *testing.T) {
	for _, ret := range []int64{0, 5, 6, -1, least, greatest} {
		set := open(1, 5, 0)
		set.Ret = ret
		tells(t, ask{cell, 9, 99, []api.Op{set, done(0, 0, 5, 1, 2)}}, api.Fits, 2, 0, 1)
		tells(t, ask{cell, 9, 99, []api.Op{set, done(0, 0, 0, 1, 2)}}, api.Fits, 3, 1)
		tells(t, ask{cell, 9, 99, []api.Op{set, done(0, 0, 6, 1, 2)}}, api.FitsNot, 3)
		tells(t, ask{cell, 9, 99, []api.Op{done(0, 0, 5, 1, 2), set}}, api.Fits, 3, 1, 0)
		tells(t, ask{cell, 9, 99, []api.Op{done(0, 0, 0, 1, 2), set}}, api.Fits, 1, 0)
	}
	// One that refuses, or that is told otherwise, is left out.
	tells(t, ask{picky, 9, 99, []api.Op{open(1, 5, 0), done(0, 3, 3, 1, 2)}}, api.Fits, 2, 1)
	tells(t, ask{picky, 9, 99, []api.Op{open(1, 5, 0), done(0, 3, 4, 1, 2)}}, api.FitsNot, 2)
}

// P18.1: others may be before one that is not Done; it is before nothing, whatever its To is.
func TestOpenInTime(t *testing.T) {
	for _, to := range times {
		late := api.Op{Op: 1, Arg: 5, From: 3, To: to}
		// The get was over when the set was called.
		tells(t, ask{cell, 9, 99, []api.Op{done(0, 0, 5, 1, 2), late}}, api.FitsNot, 1)
		tells(t, ask{cell, 9, 99, []api.Op{late, done(0, 0, 5, 1, 2)}}, api.FitsNot, 1)
		// A get that was not.
		tells(t, ask{cell, 9, 99, []api.Op{done(0, 0, 5, 1, 3), late}}, api.Fits, 3, 1, 0)
		// A get far behind it need not see it.
		tells(t, ask{cell, 9, 99, []api.Op{late, done(0, 0, 0, 500, 501)}}, api.Fits, 3, 1)
		tells(t, ask{cell, 9, 99, []api.Op{late, done(0, 0, 5, 500, 501)}}, api.Fits, 2, 0, 1)
		// None sees it, and then one does.
		tells(t, ask{cell, 9, 99, []api.Op{late, done(0, 0, 0, 500, 501), done(0, 0, 5, 502, 503)}}, api.Fits, 5, 1, 0, 2)
		// One does, and then none.
		tells(t, ask{cell, 9, 99, []api.Op{late, done(0, 0, 5, 500, 501), done(0, 0, 0, 502, 503)}}, api.FitsNot, 4)
	}
}

// P18.1: a try is a Step with Op as kind and Arg.
func TestKindAndArg(t *testing.T) {
	for _, n := range edges() {
		tells(t, ask{which, 2, 1, []api.Op{done(int(n), n-1, n, 0, 1)}}, api.Fits, 1, 0)
		tells(t, ask{which, 2, 1, []api.Op{done(int(n), n, n-1, 0, 1)}}, api.FitsNot, 1)
		tells(t, ask{echo, 2, 1, []api.Op{done(int(n-1), n, n, 0, 1)}}, api.Fits, 1, 0)
		tells(t, ask{echo, 2, 1, []api.Op{done(int(n), n, n+1, 0, 1)}}, api.FitsNot, 1)
	}
	// Who called, and when, says nothing to the code.
	for _, n := range []int{0, 1, 15, 16, -1, math.MinInt, math.MaxInt} {
		o := done(3, 7, 3, 0, math.MaxInt)
		o.Client = n
		tells(t, ask{which, 2, 1, []api.Op{o}}, api.Fits, 1, 0)
	}
}

// P18.1: the first position's cells are 0, each further one's those that the Step left: each of the four.
func TestCells(t *testing.T) {
	for c := range int64(api.Cells) {
		ops := []api.Op{done(0, 11, 0, 0, 1), done(0, 12, 11, 2, 3), done(0, 13, 12, 4, 5), done(0, 14, 13, 6, 7)}
		tells(t, ask{trade(c), 9, 99, ops}, api.Fits, 4, 0, 1, 2, 3)
		for k := range ops {
			bad := append([]api.Op{}, ops...)
			bad[k].Ret++
			tells(t, ask{trade(c), 9, 99, bad}, api.FitsNot, k+1)
		}
		// Two searches of one code begin anew.
		tells(t, ask{trade(c), 9, 99, ops[:1]}, api.Fits, 1, 0)
	}
	var ops []api.Op
	for k := range 9 {
		ops = append(ops, done(0, int64(k+1), max(0, int64(k-3)), 2*k, 2*k+1))
	}
	tells(t, ask{shift, 10, 99, ops}, api.Fits, 9, rising(9)...)
}

// P18.1: where nothing comes of a position the next place is tried on the cells of the one ahead, not on those that were left behind.
func TestCellsComeBack(t *testing.T) {
	// 0 ahead of 1: 1 is told the old value; nothing comes of it. 1 ahead of 0: 0 is told what 1 put there.
	tells(t, ask{trade(1), 9, 99, []api.Op{done(0, 5, 6, 0, 9), done(0, 6, 0, 0, 9)}}, api.Fits, 3, 1, 0)
	ops := []api.Op{open(1, 9, 0), done(1, 5, 0, 0, 9), done(0, 0, 5, 1, 9), done(0, 0, 0, 1, 9)}
	tells(t, ask{cell, 9, 999, ops}, api.Fits, 21, 3, 0, 1, 2)
	// What refuses, and what is told otherwise, leaves no cells.
	tells(t, ask{share, 9, 99, []api.Op{done(0, 0, 0, 0, 1), done(0, 5, 20, 0, 1)}}, api.FitsNot, 3)
}

// P18.1: a Step that refuses, and one that answers otherwise than an operation that is Done was told, make no position.
func TestNoPosition(t *testing.T) {
	for n := 1; n < 6; n++ {
		for k := range n {
			ops := crowd(n)
			ops[k].Op = 1 // refused by picky
			v, _ := judged(t, ask{picky, 9, 9999, ops})
			told := crowd(n)
			told[k].Ret = 0
			w, _ := judged(t, ask{picky, 9, 9999, told})
			if v.Kind != api.FitsNot || !same(v, w) {
				t.Errorf("%d of %d: %+v, %+v", k, n, v, w)
			}
		}
	}
	// A refusal answers 0 as Ret, and is no answer for all that.
	tells(t, ask{picky, 9, 99, []api.Op{done(1, 0, 0, 0, 1)}}, api.FitsNot, 1)
	tells(t, ask{[]api.Ins{refuse}, 9, 99, []api.Op{done(0, 0, 0, 0, 1)}}, api.FitsNot, 1)
	tells(t, ask{[]api.Ins{refuse}, 9, 99, []api.Op{open(0, 0, 0), done(0, 0, 0, 0, 1)}}, api.FitsNot, 2)
}

// P18.1: a lock, which refuses who can't have it: it goes round in the one order in which it can.
func TestLock(t *testing.T) {
	ops := []api.Op{done(0, 0, 0, 0, 9), done(1, 0, 0, 0, 9)}
	tells(t, ask{lock, 20, 99, ops}, api.Fits, 3, 1, 0)
	tells(t, ask{lock, 20, 99, append(ops, done(1, 0, 0, 0, 9))}, api.Fits, 4, 1, 0, 2)
	tells(t, ask{lock, 20, 99, append(ops, done(0, 0, 0, 0, 9))}, api.FitsNot, 7)
	tells(t, ask{lock, 20, 99, []api.Op{done(1, 0, 0, 0, 9), done(1, 0, 0, 0, 9), open(0, 0, 3)}}, api.Fits, 4, 0, 2, 1)
}

// P18.1: each Step has the whole fuel: as much as the greatest needs is enough for all.
func TestWholeFuel(t *testing.T) {
	for _, n := range []int{1, 2, 9, 64} {
		var ops []api.Op
		for k := range n {
			ops = append(ops, done(0, int64(k), 0, 2*k, 2*k+1))
		}
		need := 4 + 5*(n-1)
		for _, fuel := range []int{need, need + 1, mostFuel} {
			tells(t, ask{burn, fuel, 99, ops}, api.Fits, n, rising(n)...)
		}
		for k := range n {
			tells(t, ask{burn, 4 + 5*k - 1, 99, ops}, api.OutFuel, k+1)
		}
	}
	const turns = (mostFuel - 4) / 5
	tells(t, ask{burn, mostFuel, 99, []api.Op{done(0, turns, 0, 0, 1), done(0, turns, 0, 2, 3)}}, api.Fits, 2, 0, 1)
	tells(t, ask{burn, mostFuel, 99, []api.Op{done(0, turns, 0, 0, 1), done(0, turns+1, 0, 2, 3)}}, api.OutFuel, 2)
	tells(t, ask{burn, mostFuel, 99, []api.Op{done(0, -1, 0, 0, 1)}}, api.OutFuel, 1)
}

// P18.1: NoFuel ends the search at that try, also where an order that fits would come behind it, and of one that is not Done as well.
func TestNoFuel(t *testing.T) {
	fits := done(0, 3, 3, 0, 9)
	tells(t, ask{stuck, 9, 99, []api.Op{open(1, 0, 0), fits}}, api.OutFuel, 1)
	tells(t, ask{stuck, 9, 99, []api.Op{fits, open(1, 0, 0)}}, api.Fits, 1, 0)
	tells(t, ask{stuck, 9, 99, []api.Op{fits, open(1, 0, 0), fits}}, api.OutFuel, 2)
	tells(t, ask{stuck, 9, 99, []api.Op{fits, open(1, 0, 10), fits}}, api.Fits, 2, 0, 2)
	tells(t, ask{stuck, 9, 99, []api.Op{open(1, 0, 10), fits}}, api.Fits, 1, 1)
	tells(t, ask{stuck, 9, 99, []api.Op{done(0, 3, 4, 0, 9), done(1, 0, 0, 0, 9)}}, api.OutFuel, 2)
	// Never tried: nothing comes of the first position ahead of it.
	tells(t, ask{stuck, 9, 99, []api.Op{done(0, 3, 4, 0, 9), done(1, 0, 0, 10, 11)}}, api.FitsNot, 1)
	// Met on a way of which nothing would have come.
	tells(t, ask{stuck, 9, 99, []api.Op{fits, done(0, 3, 4, 0, 9), done(1, 0, 0, 0, 9)}}, api.OutFuel, 3)
	// With the budget's last try, and one behind it.
	tells(t, ask{stuck, 9, 2, []api.Op{fits, open(1, 0, 0), fits}}, api.OutFuel, 2)
	tells(t, ask{stuck, 9, 1, []api.Op{fits, open(1, 0, 0), fits}}, api.OutTry, 1)
	// No Step of a get lacks what one of a set does.
	tells(t, ask{cell, 4, 99, []api.Op{done(0, 0, 0, 0, 9), done(1, 5, 0, 0, 9)}}, api.OutFuel, 2)
	tells(t, ask{cell, 4, 99, []api.Op{done(0, 0, 0, 0, 9), open(1, 5, 0)}}, api.Fits, 1, 0)
}

// ways answers how many tries there are of m operations that may all stand anywhere and one that never fits, where a set of k of them may be met with as many cells as told.
func ways(m int, cells func(k int) int) int {
	tries, sets := 0, 1 // sets: how many of k there are
	for k := range m + 1 {
		tries += sets * cells(k) * (m - k + 1)
		sets = sets * (m - k) / (k + 1)
	}
	return tries
}

// P18.1: a position at which the search was is not gone into again, and such a try is counted; the same set with other cells is another position, each of the four cells.
func TestPositionsMet(t *testing.T) {
	for m := 1; m < 7; m++ {
		ops := wrong(told(crowd(m+1), 0))
		one := ways(m, func(int) int { return 1 })
		last := ways(m, func(k int) int { return max(1, k) }) // which of the set was the last one
		for c := range int64(api.Cells) {
			tells(t, ask{keep(c), 9, mostTries, ops}, api.FitsNot, last)
			alike := append([]api.Op{}, ops...)
			for k := range alike {
				alike[k].Arg = 3
			}
			tells(t, ask{keep(c), 9, mostTries, alike}, api.FitsNot, one)
		}
		tells(t, ask{hidden, 9, mostTries, ops}, api.FitsNot, one)
		tells(t, ask{echo, 9, mostTries, wrong(crowd(m + 1))}, api.FitsNot, one)
	}
	// Of three the sets of two are met by two ways each, that of three by three.
	tells(t, ask{echo, 9, 99, wrong(crowd(4))}, api.FitsNot, 20)
	tells(t, ask{keep(0), 9, 99, wrong(told(crowd(4), 0))}, api.FitsNot, 28)
}

// P18.1: cells that differ in a single bit, whichever, are others.
func TestCellsBits(t *testing.T) {
	for c := range int64(api.Cells) {
		for bit := range 64 {
			low, high := int64(0), int64(1)<<bit
			ops := []api.Op{done(0, low, 0, 0, 9), done(0, high, 0, 0, 9), done(0, 0, -1, 0, 9)}
			tells(t, ask{keep(c), 9, 99, ops}, api.FitsNot, 9)
			ops[0].Arg = high
			tells(t, ask{keep(c), 9, 99, ops}, api.FitsNot, 8)
		}
	}
}

// P18.1: the same cells with another set are another position.
func TestSetsDiffer(t *testing.T) {
	for m := 2; m < 7; m++ {
		ops := told(crowd(m), 0)
		for k := range ops {
			ops[k].Arg = 0
		}
		tells(t, ask{hidden, 9, mostTries, ops}, api.Fits, m, rising(m)...)
		tells(t, ask{hidden, 9, mostTries, wrong(ops)}, api.FitsNot, ways(m-1, func(int) int { return 1 }))
	}
	// Of 64, any two that may stand anywhere, one the other's way round: their places are other bits.
	for i := range 64 {
		for _, j := range []int{0, 31, 32, 63} {
			if i == j {
				continue
			}
			ops := opened(line(64))
			for k := range ops {
				ops[k].From = 100
			}
			ops[i], ops[j] = done(0, 1, 1, 0, 9), done(0, 1, 2, 0, 9) // the second never fits; none is tried ahead of it
			x, _ := ask{echo, 9, 9999, ops}.task()
			x.Go(9999)
			if v, ok := x.Verdict(); !ok || !same(v, api.Verdict{Kind: api.FitsNot, Tries: 3}) {
				t.Errorf("%d, %d: %+v, %v", i, j, v, ok)
			}
		}
	}
}

// P18.1: the order that is told is that in which they were put into the set, the first one of the search's order.
func TestFirstOrder(t *testing.T) {
	for _, n := range []int{1, 2, 5, 12} {
		tells(t, ask{echo, 9, 99, crowd(n)}, api.Fits, n, rising(n)...)
		tells(t, ask{echo, 9, 99, turned(crowd(n))}, api.Fits, n, rising(n)...)
		tells(t, ask{echo, 9, 99, turned(line(n))}, api.Fits, n, falling(n)...)
	}
	// The sums say in which order they were: 3, 1, 0, 2.
	ops := []api.Op{done(0, 100, 1110, 0, 9), done(0, 10, 1010, 0, 9), done(0, 1, 1111, 0, 9), done(0, 1000, 1000, 0, 9)}
	tells(t, ask{tally, 9, 99, ops}, api.Fits, 8, 3, 1, 0, 2)
	// Of the two orders 0, 1, 2 and 1, 0, 2 the first; of 1, 0, 2 and 1, 2, 0 the first.
	tells(t, ask{cell, 9, 99, []api.Op{done(1, 4, 0, 0, 9), done(1, 5, 0, 0, 9), done(0, 0, 5, 0, 9)}}, api.Fits, 3, 0, 1, 2)
	tells(t, ask{cell, 9, 99, []api.Op{done(0, 0, 5, 0, 9), done(1, 5, 0, 0, 9), done(1, 5, 0, 0, 9)}}, api.Fits, 4, 1, 0, 2)
}
