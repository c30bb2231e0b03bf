package lin_test

import (
	"math"
	"testing"

	"inquest/api"
	"inquest/lin"
)

// The chapter's examples.
func TestExamples(t *testing.T) {
	tells(t, ask{cell, 9, 99, nil}, api.Fits, 0)
	apart := []api.Op{done(1, 5, 0, 0, 1), done(0, 0, 0, 2, 3)}
	tells(t, ask{cell, 9, 99, apart}, api.FitsNot, 2)
	apart[1].Ret = 5
	tells(t, ask{cell, 9, 99, apart}, api.Fits, 2, 0, 1)
	// At the same time the get may be told either.
	for ret, order := range map[int64][]int{5: {0, 1}, 0: {1, 0}} {
		over := []api.Op{done(1, 5, 0, 0, 2), done(0, 0, ret, 1, 3)}
		tells(t, ask{cell, 9, 99, over}, api.Fits, 2+order[0]*2, order...)
	}
	// Out of tries at once.
	tells(t, ask{cell, 9, 0, apart}, api.OutTry, 0)
	if n := lin.Enough(3); n != 15 {
		t.Error(n)
	}
}

// What fuel and budgets can't be.
var (
	badFuel   = []int{-1, -2, math.MinInt, math.MinInt + 1, -mostFuel, mostFuel + 1, mostFuel + 2, 1 << 31, 1 << 32, 1<<32 + 9, -1 << 32, math.MaxInt - 1, math.MaxInt}
	badBudget = []int{-1, -2, math.MinInt, math.MinInt + 1, -mostTries, mostTries + 1, mostTries + 2, 1 << 31, 1 << 32, 1<<32 + 9, -1 << 32, math.MaxInt - 1, math.MaxInt}
)

// P18.1: the error of vm.New, whichever it is, and whatever the rest is.
func TestCodeErrors(t *testing.T) {
	met := map[api.Errno]int{}
	for e, lists := range noCode() {
		for _, l := range lists {
			for _, fuel := range []int{0, 9, mostFuel, -1, mostFuel + 1} {
				for _, budget := range []int{0, 9, mostTries, -1, mostTries + 1} {
					for _, ops := range [][]api.Op{nil, line(1), line(64), line(65), {done(0, 0, 0, 1, 0)}} {
						refuses(t, e, ask{l, fuel, budget, ops})
						met[e]++
					}
				}
			}
		}
	}
	often(t, met, 200, codeErrors...)
}

// P18.1: ErrArg of fuel that can't be; none of the least and the greatest that can.
func TestFuelThatCanBe(t *testing.T) {
	for _, n := range []int{0, 1, 5, 64, 65} {
		for _, fuel := range badFuel {
			for _, budget := range []int{0, 9, mostTries, -1} {
				refuses(t, api.ErrArg, ask{echo, fuel, budget, line(n)})
				refuses(t, api.ErrArg, ask{echo, fuel, budget, opened(line(n))})
			}
		}
	}
	for _, fuel := range []int{2, 3, mostFuel - 1, mostFuel} {
		tells(t, ask{echo, fuel, 99, line(5)}, api.Fits, 5, rising(5)...)
	}
	for _, fuel := range []int{0, 1} {
		tells(t, ask{echo, fuel, 99, line(5)}, api.OutFuel, 1)
		tells(t, ask{echo, fuel, 99, opened(line(5))}, api.Fits, 0)
		tells(t, ask{echo, fuel, 0, line(5)}, api.OutTry, 0)
	}
}

// P18.1: ErrArg of a budget that can't be; none of the least and the greatest that can.
func TestBudgetThatCanBe(t *testing.T) {
	for _, n := range []int{0, 1, 5, 64, 65} {
		for _, budget := range badBudget {
			for _, fuel := range []int{0, 9, mostFuel, mostFuel + 1} {
				refuses(t, api.ErrArg, ask{echo, fuel, budget, line(n)})
				refuses(t, api.ErrArg, ask{echo, fuel, budget, opened(line(n))})
			}
		}
	}
	for _, budget := range []int{5, 6, mostTries - 1, mostTries} {
		tells(t, ask{echo, 9, budget, line(5)}, api.Fits, 5, rising(5)...)
	}
	tells(t, ask{echo, 9, 0, nil}, api.Fits, 0)
	tells(t, ask{echo, 9, 0, line(1)}, api.OutTry, 0)
	// A budget may be greater than the greatest fuel.
	tells(t, ask{echo, mostFuel, mostFuel + 1, line(1)}, api.Fits, 1, 0)
}

// P18.1: ErrBig of more than 64 operations, whatever they are; none of 64.
func TestTooMany(t *testing.T) {
	for _, n := range []int{65, 66, 100, 128, 129, 1000} {
		for _, ops := range [][]api.Op{line(n), crowd(n), opened(line(n)), append(line(64), opened(crowd(n-64))...), append(line(n-1), done(0, 0, 0, 1, 0))} {
			refuses(t, api.ErrBig, ask{echo, 9, 99, ops})
			refuses(t, api.ErrBig, ask{[]api.Ins{refuse}, 0, 0, ops})
		}
	}
	for _, n := range []int{62, 63, 64} {
		tells(t, ask{echo, 9, 99, line(n)}, api.Fits, n, rising(n)...)
		tells(t, ask{echo, 9, 99, crowd(n)}, api.Fits, n, rising(n)...)
		tells(t, ask{echo, 9, 99, turned(line(n))}, api.Fits, n, falling(n)...)
		tells(t, ask{echo, 9, 99, opened(line(n))}, api.Fits, 0)
	}
}

// P18.1: ErrOrder where one is before itself, wherever it stands; none where To is From, and none of one that is not Done.
func TestBeforeItself(t *testing.T) {
	for _, n := range []int{1, 2, 3, 5, 64} {
		for _, k := range []int{0, n / 2, n - 1} {
			for _, from := range []int{math.MinInt + 1, -1, 0, 1, 2*k + 1, 128, math.MaxInt} {
				ops := crowd(n)
				for i := range ops {
					ops[i].From, ops[i].To = math.MinInt, math.MaxInt
				}
				a := ask{echo, 9, 99, ops}
				for _, to := range []int{from - 1, math.MinInt} {
					ops[k].From, ops[k].To, ops[k].Done = from, to, true
					refuses(t, api.ErrOrder, a)
					refuses(t, api.ErrOrder, a.with(0).within(0))
					ops[k].Done = false
					refuses(t, api.OK, a)
				}
				for _, to := range []int{from, max(from, from+1), math.MaxInt} {
					ops[k].To, ops[k].Done = to, true
					refuses(t, api.OK, a)
				}
			}
		}
	}
	refuses(t, api.ErrOrder, ask{echo, 9, 99, []api.Op{done(0, 0, 0, math.MaxInt, math.MinInt)}})
	refuses(t, api.OK, ask{echo, 9, 99, []api.Op{done(0, 0, 0, math.MinInt, math.MaxInt)}})
	refuses(t, api.OK, ask{echo, 9, 99, []api.Op{{From: math.MaxInt, To: math.MinInt}}})
	// Two that are each before itself; one that is, behind 63 that are not.
	refuses(t, api.ErrOrder, ask{echo, 9, 99, []api.Op{done(0, 0, 0, 1, 0), done(0, 0, 0, 3, 2)}})
	refuses(t, api.ErrOrder, ask{echo, 9, 99, append(line(63), done(0, 0, 0, 200, 199))})
}

// fault is one thing that is wrong, and its error.
type fault struct {
	e    api.Errno
	make func(a *ask)
}

// faults answers what can be wrong, in the order in which it is told; what is of one kind stands together, none first.
func faults() [][]fault {
	none := fault{api.OK, func(*ask) {}}
	code, numbers := []fault{none}, []fault{none}
	for _, e := range codeErrors {
		for _, l := range noCode()[e] {
			code = append(code, fault{e, func(a *ask) { a.l = l }})
		}
	}
	for _, n := range []int{-1, math.MinInt, math.MaxInt} {
		numbers = append(numbers, fault{api.ErrArg, func(a *ask) { a.fuel = n }}, fault{api.ErrArg, func(a *ask) { a.budget = n }}, fault{api.ErrArg, func(a *ask) { a.fuel, a.budget = n, n }})
	}
	numbers = append(numbers, fault{api.ErrArg, func(a *ask) { a.fuel = mostFuel + 1 }}, fault{api.ErrArg, func(a *ask) { a.budget = mostTries + 1 }})
	many := []fault{none,
		{api.ErrBig, func(a *ask) { a.ops = append(a.ops, line(65-len(a.ops))...) }},
		{api.ErrBig, func(a *ask) { a.ops = append(opened(crowd(200)), a.ops...) }},
	}
	time := []fault{none}
	for _, k := range []int{0, 2, 5} {
		time = append(time, fault{api.ErrOrder, func(a *ask) { a.ops[k].To = a.ops[k].From - 1 }})
	}
	return [][]fault{code, numbers, many, time}
}

// P18.1, R2: of all that is wrong the first is told, whatever else is wrong as well, and there is no task.
func TestFirstError(t *testing.T) {
	met := map[api.Errno]int{}
	levels := faults()
	for _, code := range levels[0] {
		for _, number := range levels[1] {
			for _, many := range levels[2] {
				for _, time := range levels[3] {
					a := ask{echo, 9, 99, line(6)}
					want := api.OK
					for _, f := range []fault{time, many, number, code} {
						if f.make(&a); f.e != api.OK {
							want = f.e
						}
					}
					if x, e := a.task(); e != want || (x == nil) != (want != api.OK) {
						t.Fatalf("%+v: error %d, not %d, task %v", a, e, want, x)
					}
					met[want]++
				}
			}
		}
	}
	often(t, met, 1, append(codeErrors, api.OK, api.ErrArg, api.ErrBig, api.ErrOrder)...)
}

// P18.1: each of the faults alone is one, by the chapter's words.
func TestEachFault(t *testing.T) {
	for _, l := range faults() {
		for _, f := range l {
			a := ask{echo, 9, 99, line(6)}
			f.make(&a)
			refuses(t, f.e, a)
		}
	}
}

// P18.1: a task did no try yet, and is not over.
func TestNoTryYet(t *testing.T) {
	for _, l := range codes() {
		for _, n := range []int{1, 2, 5, 63, 64} {
			for _, ops := range [][]api.Op{line(n), crowd(n), append(opened(line(n-1)), done(0, 0, 0, 0, 500)), told(line(n), -7)} {
				for _, budget := range []int{1, 2, 99, mostTries} {
					for _, fuel := range []int{0, 9, mostFuel} {
						x, e := ask{l, fuel, budget, ops}.task()
						if e != api.OK || x.Tries() != 0 || x.Over() {
							t.Fatalf("%v: error %d, %d tries, over %v", ops, e, x.Tries(), x.Over())
						}
						if v, ok := x.Verdict(); ok || !same(v, api.Verdict{}) {
							t.Fatalf("%v: %v, %v", ops, v, ok)
						}
					}
				}
			}
		}
	}
}

// P18.1: it is over at once, where no operation is Done: Fits, an order of none, no tries.
func TestOverAtOnce(t *testing.T) {
	for _, l := range append(codes(), []api.Ins{refuse}, []api.Ins{jump(0)}) {
		for _, fuel := range []int{0, 1, 9, mostFuel} {
			for _, budget := range []int{0, 1, 99, mostTries} {
				for _, ops := range [][]api.Op{nil, {}, {open(1, 5, 0)}, opened(line(2)), opened(line(64)), opened(crowd(64)), opened([]api.Op{done(0, 0, 0, 7, -7)})} {
					x, e := ask{l, fuel, budget, ops}.task()
					if e != api.OK || !x.Over() || x.Tries() != 0 {
						t.Fatalf("%v: error %d, over %v, %d tries", ops, e, x.Over(), x.Tries())
					}
					if v, ok := x.Verdict(); !ok || !same(v, api.Verdict{Kind: api.Fits}) {
						t.Fatalf("%v: %v, %v", ops, v, ok)
					}
					tells(t, ask{l, fuel, budget, ops}, api.Fits, 0)
				}
			}
		}
	}
}

// P18.1: one that is Done, among others that are not, wherever it stands, is enough for it not to be over at once.
func TestOneDone(t *testing.T) {
	for _, n := range []int{1, 2, 5, 64} {
		for k := range n {
			ops := opened(line(n))
			ops[k].Done = true
			x, e := ask{echo, 9, 99, ops}.task()
			if e != api.OK || x.Over() || x.Go(k) || x.Tries() != k || !x.Go(1) {
				t.Fatalf("%d of %d: error %d, %d tries", k, n, e, x.Tries())
			}
			tells(t, ask{echo, 9, 99, ops}, api.Fits, k+1, rising(k+1)...)
		}
	}
}

// R3: nil and empty lists are alike.
func TestNilAndEmpty(t *testing.T) {
	for _, ops := range [][]api.Op{nil, {}} {
		tells(t, ask{echo, 9, 99, ops}, api.Fits, 0)
		refuses(t, api.ErrBig, ask{nil, 9, 99, ops})
		refuses(t, api.ErrBig, ask{[]api.Ins{}, 9, 99, ops})
	}
}
