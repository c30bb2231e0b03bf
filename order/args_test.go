package order_test

import (
	"math"
	"slices"
	"testing"

	"inquest/api"
)

// far are numbers beyond what any list has.
var far = []int{-1, -2, math.MinInt, math.MinInt + 1, math.MaxInt, math.MaxInt - 1, 64, 65, 1 << 31, 1 << 32, -1 << 32, -1 << 63}

// The chapter's examples.
func TestExamples(t *testing.T) {
	over := []api.Op{done(1, 5, 0, 0, 2), done(0, 0, 5, 1, 3)}
	tells(t, api.OK, ask{cell, 6, over, []int{0, 1}})
	tells(t, api.ErrRet, ask{cell, 6, over, []int{1, 0}})
	apart := []api.Op{done(1, 5, 0, 0, 1), done(0, 0, 5, 2, 3)}
	tells(t, api.OK, ask{cell, 6, apart, []int{0, 1}})
	tells(t, api.ErrOrder, ask{cell, 6, apart, []int{1, 0}})
}

// P17.1: the error of vm.New, whichever it is, and whatever the rest is.
func TestCodeErrors(t *testing.T) {
	met := 0
	for e, lists := range noCode() {
		for _, l := range lists {
			for _, fuel := range []int{0, 9, mostFuel, -1, mostFuel + 1, math.MinInt, math.MaxInt} {
				for _, n := range []int{0, 1, 5, 64, 65} {
					for _, order := range [][]int{nil, rising(n), falling(n), {-1}, {0, 0}, {n}} {
						tells(t, e, ask{l, fuel, line(n), order})
					}
				}
			}
			met++
		}
	}
	if met < 15 {
		t.Errorf("only %d rows", met)
	}
}

// P17.1: ErrArg of fuel that can't be; none of the least and the greatest that can.
func TestFuelThatCanBe(t *testing.T) {
	for _, n := range []int{0, 1, 5, 64, 65, 100} {
		for _, fuel := range []int{-1, -2, math.MinInt, math.MinInt + 1, -mostFuel, mostFuel + 1, mostFuel + 2, 1 << 31, 1 << 32, 1<<32 + 9, -1 << 32, math.MaxInt - 1, math.MaxInt} {
			for _, order := range [][]int{nil, rising(n), falling(n), {-1}, {0, 0}, {n}} {
				tells(t, api.ErrArg, ask{echo, fuel, line(n), order})
			}
		}
		if n > mostOps {
			continue
		}
		for _, fuel := range []int{2, 3, mostFuel - 1, mostFuel} {
			tells(t, api.OK, ask{echo, fuel, line(n), rising(n)})
		}
	}
	for _, fuel := range []int{0, 1} {
		tells(t, api.OK, ask{echo, fuel, nil, nil})
		tells(t, api.OK, ask{echo, fuel, opened(line(3)), nil})
		tells(t, api.ErrStep, ask{echo, fuel, line(1), rising(1)})
		tells(t, api.ErrStep, ask{echo, fuel, opened(line(3)), []int{1}})
		tells(t, api.ErrBig, ask{echo, fuel, line(65), nil})
		tells(t, api.ErrArg, ask{echo, fuel, line(3), []int{3}})
		tells(t, api.ErrNone, ask{echo, fuel, line(3), nil})
		tells(t, api.ErrOrder, ask{echo, fuel, line(3), falling(3)})
	}
}

// P17.1: ErrBig of more than 64 operations, whatever the order is; none of 64.
func TestTooMany(t *testing.T) {
	for _, n := range []int{65, 66, 100, 128, 129, 1000} {
		for _, ops := range [][]api.Op{line(n), crowd(n), opened(line(n)), append(line(64), opened(crowd(n-64))...)} {
			for _, order := range [][]int{nil, rising(n), falling(n), rising(64), rising(65), {64}, {n - 1}, {n}, {-1}, {0, 0}, {math.MaxInt}, {math.MinInt}} {
				tells(t, api.ErrBig, ask{echo, 9, ops, order})
				tells(t, api.ErrBig, ask{[]api.Ins{refuse}, 0, ops, order})
			}
		}
	}
	for _, n := range []int{63, 64} {
		tells(t, api.OK, ask{echo, 9, line(n), rising(n)})
		tells(t, api.OK, ask{echo, 9, crowd(n), falling(n)})
		tells(t, api.OK, ask{echo, 9, opened(line(n)), nil})
		tells(t, api.OK, ask{echo, 9, opened(crowd(n)), []int{n - 1}})
		tells(t, api.ErrArg, ask{echo, 9, line(n), rising(n + 1)})
	}
}

// P17.1: ErrArg of a number that is no place of ops, wherever it stands, and of as many as there are.
func TestNoPlace(t *testing.T) {
	for _, n := range []int{0, 1, 2, 5, 63, 64} {
		for _, ops := range [][]api.Op{line(n), crowd(n), opened(crowd(n))} {
			for _, x := range append([]int{n, n + 1, n + 2}, far...) {
				if x >= 0 && x < n {
					continue
				}
				for at := range n + 1 {
					tells(t, api.ErrArg, ask{echo, 9, ops, slices.Insert(rising(n), at, x)})
					if at < n {
						tells(t, api.ErrArg, ask{echo, 9, ops, append(append(rising(at), x), rising(n)[at+1:]...)})
					}
				}
				tells(t, api.ErrArg, ask{echo, 9, ops, []int{x}})
				tells(t, api.ErrArg, ask{echo, 9, ops, []int{x, x}})
				tells(t, api.ErrArg, ask{echo, 9, ops, slices.Repeat([]int{x}, 1000)})
			}
		}
	}
}

// P17.1: any number, where there are no operations.
func TestNoOperations(t *testing.T) {
	for _, ops := range [][]api.Op{nil, {}} {
		tells(t, api.OK, ask{echo, 9, ops, nil})
		tells(t, api.OK, ask{echo, 0, ops, []int{}})
		tells(t, api.OK, ask{[]api.Ins{refuse}, mostFuel, ops, nil})
		for x := -70; x < 70; x++ {
			tells(t, api.ErrArg, ask{echo, 9, ops, []int{x}})
		}
		for _, x := range far {
			tells(t, api.ErrArg, ask{echo, 9, ops, []int{x}})
		}
	}
}

// P17.1: ErrArg of a number that stands there twice: at any two places, of an operation that is not Done as well.
func TestTwice(t *testing.T) {
	for _, n := range []int{1, 2, 5, 64} {
		for _, ops := range [][]api.Op{line(n), crowd(n), opened(crowd(n))} {
			for x := range n {
				for at := range n + 1 {
					tells(t, api.ErrArg, ask{echo, 9, ops, slices.Insert(rising(n), at, x)})
					if at < n && at != x {
						lacks := rising(n)
						lacks[at] = x
						tells(t, api.ErrArg, ask{echo, 9, ops, lacks})
					}
				}
				tells(t, api.ErrArg, ask{echo, 9, ops, []int{x, x}})
				tells(t, api.ErrArg, ask{echo, 9, ops, []int{x, x, x}})
			}
			tells(t, api.ErrArg, ask{echo, 9, ops, append(rising(n), rising(n)...)})
			tells(t, api.ErrArg, ask{echo, 9, ops, slices.Repeat([]int{n - 1}, 1000)})
		}
	}
}

// P17.1: ErrNone where one that is Done does not stand there, whichever and however many; none where it is not Done.
func TestNotThere(t *testing.T) {
	for _, n := range []int{1, 2, 5, 64} {
		for _, ops := range [][]api.Op{line(n), crowd(n)} {
			tells(t, api.ErrNone, ask{echo, 9, ops, nil})
			for k := range n {
				without := slices.Delete(rising(n), k, k+1)
				tells(t, api.ErrNone, ask{echo, 9, ops, without})
				tells(t, api.ErrNone, ask{echo, 9, ops, rising(k)})
				tells(t, api.ErrNone, ask{echo, 9, ops, rising(n)[k+1:]})
				mixed := slices.Clone(ops)
				mixed[k].Done = false
				tells(t, api.OK, ask{echo, 9, mixed, without})
				tells(t, api.OK, ask{echo, 9, mixed, rising(n)})
				alone := opened(ops)
				alone[k].Done = true
				tells(t, api.ErrNone, ask{echo, 9, alone, without})
				tells(t, api.ErrNone, ask{echo, 9, alone, nil})
				tells(t, api.OK, ask{echo, 9, alone, []int{k}})
			}
			tells(t, api.OK, ask{echo, 9, opened(ops), nil})
			tells(t, api.OK, ask{echo, 9, opened(ops), falling(n)})
		}
	}
}

// P17.1: operations that are not Done may stand there or not, in any set of them.
func TestSomeOpen(t *testing.T) {
	const n = 6
	for set := range 1 << n {
		ops := crowd(n)
		for k := range n {
			ops[k].Done = set>>k&1 == 0
		}
		for out := range 1 << n {
			var l []int
			for k := range n {
				if out>>k&1 == 0 {
					l = append(l, k)
				}
			}
			want := api.OK
			if out&^set != 0 {
				want = api.ErrNone
			}
			tells(t, want, ask{echo, 9, ops, l})
			slices.Reverse(l)
			tells(t, want, ask{echo, 9, ops, l})
		}
	}
}
