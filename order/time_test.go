package order_test

import (
	"math"
	"slices"
	"testing"

	"inquest/api"
)

// permuted goes through all orders of n numbers.
func permuted(n int, f func(l []int)) {
	rows(n, 0, n, func(l []int) {
		if s := slices.Sorted(slices.Values(l)); slices.Equal(s, rising(n)) {
			f(l)
		}
	})
}

// at answers an operation of echo that is done, called and answered at these times.
func at(from, to int) api.Op { return done(0, 7, 7, from, to) }

// P17.1: of operations one behind the other, only the rising order is one; of those that lie over one another, each is.
func TestAllOrders(t *testing.T) {
	for n := range 6 {
		permuted(n, func(l []int) {
			want := api.OK
			if !slices.Equal(l, rising(n)) {
				want = api.ErrOrder
			}
			tells(t, want, ask{echo, 2, line(n), l})
			tells(t, api.OK, ask{echo, 2, crowd(n), l})
			tells(t, api.OK, ask{echo, 2, opened(line(n)), l})
		})
	}
}

// P17.1: ErrOrder where any two of 64 changed places, next to one another or with others between.
func TestAnyTwo(t *testing.T) {
	a := ask{echo, 2, line(64), rising(64)}
	tells(t, api.OK, a)
	tells(t, api.ErrOrder, a.in(falling(64)...))
	for i := range 64 {
		for j := range i {
			if e := a.in(changed(a.order, i, j)...).told(); e != api.ErrOrder {
				t.Errorf("%d and %d: error %d", j, i, e)
			}
		}
	}
}

// P17.1: two that are one before the other, any two of 64 of which all others lie over one another.
func TestTwoOfMany(t *testing.T) {
	for i := range 64 {
		for j := range 64 {
			if i == j {
				continue
			}
			ops := crowd(64)
			for k := range ops {
				ops[k].From, ops[k].To = 0, 1000
			}
			ops[i].To, ops[j].From = 500, 501
			want := api.OK
			if i > j {
				want = api.ErrOrder
			}
			if e := (ask{echo, 2, ops, rising(64)}).told(); e != want {
				t.Errorf("%d before %d: error %d, not %d", i, j, e, want)
			}
			if e := (ask{echo, 2, ops, changed(rising(64), i, j)}).told(); e != api.ErrOrder-want {
				t.Errorf("%d before %d, which changed places: error %d", i, j, e)
			}
		}
	}
}

// P17.1: with one between that lies over both.
func TestOneBetween(t *testing.T) {
	ops := []api.Op{at(0, 10), at(0, 100), at(50, 60)}
	permuted(3, func(l []int) {
		want := api.OK
		if slices.Index(l, 2) < slices.Index(l, 0) {
			want = api.ErrOrder
		}
		tells(t, want, ask{echo, 2, ops, l})
	})
}

// times are those that operations of a history have, and others.
var times = []int{math.MinInt, math.MinInt + 1, -1000, -2, -1, 0, 1, 2, 3, 126, 127, 128, 1 << 31, 1 << 32, math.MaxInt - 1, math.MaxInt}

// P17.1: To one below From, the same and one above it; To and From that no history has.
func TestToAndFrom(t *testing.T) {
	for _, to := range times {
		for _, from := range times {
			a := ask{echo, 2, []api.Op{at(math.MinInt, to), at(from, math.MaxInt)}, []int{1, 0}}
			want := api.OK
			if to < from {
				want = api.ErrOrder
			}
			tells(t, want, a)
			tells(t, api.OK, a.in(0, 1))
			a.ops[1].Done = false
			tells(t, want, a)
			tells(t, api.OK, a.in(0, 1))
			tells(t, api.OK, a.in(0))
			a.ops[0].Done = false
			tells(t, api.OK, a)
			tells(t, api.OK, a.in(0, 1))
			a.ops[1].Done = true
			tells(t, api.OK, a)
			tells(t, api.OK, a.in(0, 1))
		}
	}
}

// P17.1: two whose times are any, one ahead of the other.
func TestAnyTimes(t *testing.T) {
	for _, from := range times {
		for _, to := range times {
			for _, otherFrom := range times {
				for _, otherTo := range times {
					for set := range 4 {
						ops := []api.Op{at(from, to), at(otherFrom, otherTo)}
						ops[0].Done, ops[1].Done = set&1 == 0, set&2 == 0
						want := api.OK
						if ops[1].Done && otherTo < from {
							want = api.ErrOrder
						}
						if e := (ask{echo, 2, ops, []int{0, 1}}).told(); e != want {
							t.Errorf("%+v: error %d, not %d", ops, e, want)
						}
					}
				}
			}
		}
	}
}

// P17.1: one that is not Done is before nothing, whatever its To is, and others may be before it.
func TestOpenOnes(t *testing.T) {
	for _, to := range times {
		ops := []api.Op{at(10, 11), at(20, 21), {Arg: 1, From: 15, To: to}}
		tells(t, api.OK, ask{echo, 2, ops, []int{0, 1}})
		tells(t, api.OK, ask{echo, 2, ops, []int{0, 1, 2}})
		tells(t, api.OK, ask{echo, 2, ops, []int{0, 2, 1}})
		tells(t, api.ErrOrder, ask{echo, 2, ops, []int{2, 0, 1}})
		for _, l := range [][]int{{1, 0}, {1, 0, 2}, {1, 2, 0}, {2, 1, 0}} {
			tells(t, api.ErrOrder, ask{echo, 2, ops, l})
		}
	}
}

// P17.1: one whose time is out of joint, but which does not stand there, changes nothing.
func TestNotStanding(t *testing.T) {
	for _, from := range times {
		for _, to := range times {
			ops := append(line(3), api.Op{From: from, To: to})
			tells(t, api.OK, ask{echo, 2, ops, rising(3)})
			tells(t, api.ErrOrder, ask{echo, 2, ops, falling(3)})
		}
	}
}

// P17.1: what no history has: one that is before itself does not stand ahead of itself; of two that are before one another one always stands ahead.
func TestBeforeItself(t *testing.T) {
	for _, to := range times {
		for _, from := range times {
			if to >= from {
				continue
			}
			tells(t, api.OK, ask{echo, 2, []api.Op{at(from, to)}, []int{0}})
			two := ask{echo, 2, []api.Op{at(from, to), at(from, to)}, []int{0, 1}}
			tells(t, api.ErrOrder, two)
			tells(t, api.ErrOrder, two.in(1, 0))
			// Next to it one that is before neither, and that neither is before.
			over := ask{echo, 2, []api.Op{at(from, to), at(to, from)}, []int{0, 1}}
			tells(t, api.OK, over)
			tells(t, api.OK, over.in(1, 0))
		}
	}
}

// P17.1: what is before what is before a third need not be before it, where no history has them.
func TestNoOrderAtAll(t *testing.T) {
	ops := []api.Op{at(100, 200), at(300, 5), at(10, 400)}
	for l, want := range map[[3]int]api.Errno{
		{0, 1, 2}: api.ErrOrder, // 1 is before 0
		{0, 2, 1}: api.ErrOrder,
		{1, 0, 2}: api.ErrOrder, // 0 is before 1
		{1, 2, 0}: api.ErrOrder,
		{2, 0, 1}: api.ErrOrder, // 1 is before 2
		{2, 1, 0}: api.ErrOrder,
	} {
		tells(t, want, ask{echo, 2, ops, l[:]})
	}
	ops[1].Done = false // before nothing now; 0 is before it
	tells(t, api.OK, ask{echo, 2, ops, []int{0, 2, 1}})
	tells(t, api.OK, ask{echo, 2, ops, []int{2, 0, 1}})
	tells(t, api.OK, ask{echo, 2, ops, []int{2, 0}})
	tells(t, api.ErrOrder, ask{echo, 2, ops, []int{2, 1, 0}})
}

// P17.1: time is looked at in all of the order ahead of any Step.
func TestTimeAheadOfSteps(t *testing.T) {
	for n := 2; n <= 64; n++ {
		ops := line(n)
		for k := range ops {
			ops[k].Ret++
		}
		last := changed(rising(n), n-2, n-1)
		tells(t, api.ErrRet, ask{echo, 2, ops, rising(n)})
		tells(t, api.ErrOrder, ask{echo, 2, ops, last})
		tells(t, api.ErrStep, ask{echo, 1, ops, rising(n)})
		tells(t, api.ErrOrder, ask{echo, 1, ops, last})
	}
}

// P17.1: what else an operation has says nothing of time: whose it is, what it is.
func TestOtherFields(t *testing.T) {
	for _, client := range []int{0, 1, 15, 16, -1, math.MinInt, math.MaxInt} {
		for _, l := range [][]api.Op{line(3), crowd(3)} {
			ops := slices.Clone(l)
			ops[1].Client = client
			for _, order := range [][]int{{0, 1, 2}, {1, 0, 2}, {2, 1, 0}} {
				tells(t, ask{echo, 2, l, order}.told(), ask{echo, 2, ops, order})
			}
		}
	}
}
