package code_test

import (
	"math"
	"math/rand"
	"slices"
	"testing"

	"inquest/api"
	"inquest/code"
)

// noOps answers numbers that are no Op.
func noOps() []int {
	return []int{-1, -2, -20, 20, 21, 255, 256, 256 + api.IRefuse, 1 << 32, -1 << 32, math.MinInt, math.MaxInt}
}

// P15.1: what each instruction takes off the stack and puts on it.
func TestTakesPuts(t *testing.T) {
	takes := []int{0, 1, 1, 2, 0, 1, 0, 0, 2, 2, 2, 2, 2, 2, 2, 1, 0, 1, 1, 0}
	puts := []int{1, 0, 2, 2, 1, 0, 1, 1, 1, 1, 1, 1, 1, 1, 1, 1, 0, 0, 0, 0}
	for op := range 20 {
		if got := code.Takes(op); got != takes[op] || got != table[op].takes || table[op].op != op {
			t.Errorf("Takes of %d: %d, not %d", op, got, takes[op])
		}
		if got := code.Puts(op); got != puts[op] || got != table[op].puts {
			t.Errorf("Puts of %d: %d, not %d", op, got, puts[op])
		}
	}
	for _, op := range noOps() {
		if takes, puts := code.Takes(op), code.Puts(op); takes != -1 || puts != -1 {
			t.Errorf("Takes and Puts of %d: %d, %d", op, takes, puts)
		}
	}
}

// P15.1: numbers around those of the instructions.
func TestTakesPutsAround(t *testing.T) {
	for op := -300; op <= 300; op++ {
		takes, puts := -1, -1
		if op >= 0 && op < len(table) {
			takes, puts = table[op].takes, table[op].puts
		}
		if code.Takes(op) != takes || code.Puts(op) != puts {
			t.Errorf("Takes and Puts of %d: %d, %d", op, code.Takes(op), code.Puts(op))
		}
	}
}

// The chapter's examples of Check.
func TestExampleChecks(t *testing.T) {
	isDeep(t, []int{0, 1, 0, 1}, do(api.IArg), store(0), push(0), answer)
	checks(t, 0, api.ErrShort, pop)
	checks(t, 0, api.ErrRest, push(1))
	isDeep(t, []int{0, 1, 0}, push(1), unless(0), refuse)
	checks(t, 1, api.ErrFlow, push(1), jump(0))
}

// P15.2: 1 to 200 instructions are code, no fewer and no more.
func TestCheckMany(t *testing.T) {
	checks(t, 0, api.ErrBig)
	checks(t, 0, api.ErrBig, []api.Ins{}...)
	for _, n := range []int{1, 2, 127, 128, 199, 200} {
		checks(t, 0, api.OK, refusals(n)...)
		checks(t, 0, api.OK, list(jump(int64(n-1)), refusals(n))[:n]...)
	}
	for _, n := range []int{2, 199, 200} {
		checks(t, 0, api.OK, turns(n)...)
		checks(t, n-1, api.ErrShort, list(jump(int64(n-1)), refusals(n-2), pop)...)
	}
	for _, n := range []int{201, 202, 210, 255, 256, 257, 400, 1000} {
		checks(t, 0, api.ErrBig, refusals(n)...)
		checks(t, 0, api.ErrBig, turns(n)...)
	}
}

// P15.2: ErrBig comes ahead of an instruction that can't be, and of what does not fit together.
func TestCheckManyFirst(t *testing.T) {
	for _, n := range []int{201, 210, 300} {
		for _, at := range []int{0, 1, 199, 200, n - 1} {
			for _, bad := range []api.Ins{do(20), do(-1), load(4), jump(int64(n)), jump(-1), {Op: api.IRefuse, N: 1}, pop, push(0)} {
				l := turns(n)
				l[at] = bad
				checks(t, 0, api.ErrBig, l...)
			}
		}
	}
}

// P15.2: an Op that is none.
func TestCheckOps(t *testing.T) {
	for _, op := range noOps() {
		for _, n := range []int64{0, 1, -1, math.MinInt64, math.MaxInt64} {
			bad := api.Ins{Op: op, N: n}
			checks(t, 0, api.ErrCode, bad)
			checks(t, 0, api.ErrCode, bad, refuse)
			checks(t, 1, api.ErrCode, refuse, bad)
			checks(t, 2, api.ErrCode, push(1), answer, bad, refuse)
		}
	}
}

// P15.2: which N each Op can have.
func TestCheckNumbers(t *testing.T) {
	const many = 12 // places, the instruction in question among them
	for _, w := range table {
		for _, n := range []int64{0, 1, 2, 3, 4, 5, -1, -2, -4, many - 2, many - 1, many, many + 1, 199, 200, 201, 256, 1 << 32, 1<<32 + 1, -1 << 32, math.MinInt64, math.MinInt64 + 1, math.MaxInt64} {
			can := n == 0
			switch w.op {
			case api.IPush:
				can = true
			case api.ILoad, api.IStore:
				can = n == 0 || n == 1 || n == 2 || n == 3
			case api.IJump, api.IUnless:
				can = n >= 0 && n < many
			}
			l := refusals(many)
			for _, at := range []int{1, 5, many - 1} {
				l[at] = api.Ins{Op: w.op, N: n} // nothing leads there
				if can {
					checks(t, 0, api.OK, l...)
				} else {
					checks(t, at, api.ErrCode, l...)
				}
				l[at] = refuse
			}
		}
	}
}

// P15.2: cells and places, where the instruction is come to.
func TestCheckNumbersLed(t *testing.T) {
	for n := int64(-1); n <= 4; n++ {
		if n >= 0 && n <= 3 {
			isDeep(t, []int{0, 1, 0}, load(n), store(n), refuse)
			continue
		}
		checks(t, 0, api.ErrCode, load(n), store(n), refuse)
		checks(t, 1, api.ErrCode, load(0), store(n), refuse)
	}
	for n := int64(-1); n <= 5; n++ {
		jumps, splits := list(jump(n), refuse, refuse, refuse), list(push(0), unless(n), refuse, refuse)
		switch {
		case n < 0 || n > 3:
			checks(t, 0, api.ErrCode, jumps...)
			checks(t, 1, api.ErrCode, splits...)
		case n == 1:
			checks(t, 0, api.OK, jumps...)
			checks(t, 1, api.ErrFlow, splits...)
		default:
			checks(t, 0, api.OK, jumps...)
			checks(t, 0, api.OK, splits...)
		}
	}
}

// P15.2: places of code of each length: the last one can be, as many as there are can't.
func TestCheckPlaces(t *testing.T) {
	for _, n := range []int{1, 2, 3, 127, 128, 129, 199, 200} {
		for _, at := range []int{0, n / 2, n - 1} {
			for _, op := range []int{api.IJump, api.IUnless} {
				l := refusals(n)
				for _, to := range []int64{int64(n), int64(n + 1), 200, 255, -1, math.MaxInt64, math.MinInt64} {
					l[at] = api.Ins{Op: op, N: to}
					checks(t, at, api.ErrCode, l...)
				}
				for _, to := range []int64{0, int64(n / 2), int64(n - 1)} {
					l[at] = api.Ins{Op: op, N: to}
					if at > 0 || op == api.IJump {
						checks(t, 0, api.OK, l...)
					} else {
						checks(t, 0, api.ErrShort, l...)
					}
				}
			}
		}
	}
}

// bads answers instructions that can't be in code of n instructions.
func bads(n int) []api.Ins {
	return []api.Ins{do(20), do(-1), do(math.MaxInt), {Op: api.IPop, N: 1}, {Op: api.IDup, N: -1}, {Op: api.IAnswer, N: math.MinInt64}, load(4), load(-1), store(4), store(-1), jump(int64(n)), jump(-1), unless(int64(n)), unless(-1)}
}

// P15.2: the place is the first one at which an instruction can't be, whatever stands behind.
func TestCheckFirstPlace(t *testing.T) {
	const n = 9
	for at := range n {
		for _, first := range bads(n) {
			for _, second := range bads(n) {
				for later := at + 1; later < n; later++ {
					l := turns(n)
					l[at], l[later] = first, second
					if got, e := code.Check(l); got != at || e != api.ErrCode {
						t.Fatalf("Check of %v: %d, error %d", l, got, e)
					}
				}
			}
			l := turns(n)
			l[at] = first
			checks(t, at, api.ErrCode, l...)
		}
	}
}

// P15.2: an instruction that can't be comes ahead of all that is found by going through, also where nothing leads to it.
func TestCheckCodeFirst(t *testing.T) {
	spoilt := [][]api.Ins{
		{pop},                         // ErrShort at 0
		{push(0), add},                // ErrShort at 1
		list(deep(9)),                 // ErrFull at 8
		list(deep(8), dup),            // ErrFull at 8
		{push(1), jump(0)},            // ErrFlow at 1
		{push(0), push(0), unless(0)}, // ErrFlow at 2
	}
	for _, l := range spoilt {
		n := len(l) + 3
		for _, bad := range bads(n) {
			checks(t, len(l)+1, api.ErrCode, list(l, refuse, bad, refuse)...)
			checks(t, len(l)+2, api.ErrCode, list(l, refuse, refuse, bad)...)
			checks(t, len(l), api.ErrCode, list(l, bad, push(1), bad)...)
		}
	}
	for _, bad := range bads(4) {
		checks(t, 1, api.ErrCode, refuse, bad, refuse, push(1)) // nothing leads to 1
		checks(t, 2, api.ErrCode, push(1), answer, bad, push(1))
		checks(t, 1, api.ErrCode, jump(2), bad, refuse, refuse)
		checks(t, 3, api.ErrCode, jump(2), pop, refuse, bad)
		checks(t, 0, api.ErrCode, bad, pop, pop, push(1))
		checks(t, 2, api.ErrCode, push(0), push(0), bad, push(1)) // and ErrRest
	}
}

// P15.2: 0 and OK, if there is no error.
func TestCheckOK(t *testing.T) {
	for _, l := range append(samples(), longest()...) {
		checks(t, 0, api.OK, l...)
	}
}

// every goes through all rows of n instructions out of those that are given.
func every(from []api.Ins, n int, f func(l []api.Ins)) {
	l := make([]api.Ins, n)
	var fill func(at int)
	fill = func(at int) {
		if at == n {
			f(l)
			return
		}
		for _, v := range from {
			l[at] = v
			fill(at + 1)
		}
	}
	fill(0)
}

// leaders answers instructions that lead to each of n places.
func leaders(n int) []api.Ins {
	var l []api.Ins
	for at := range n {
		l = append(l, jump(int64(at)), unless(int64(at)))
	}
	return l
}

// P15.2 to P15.4: all code of up to three instructions, of every Op, and rows that are no code.
func TestAllShortest(t *testing.T) {
	met := map[api.Errno]int{}
	for n := range 4 {
		from := append(leaders(n), do(20), do(-1), load(3), load(4), jump(int64(n)), unless(-1))
		for _, w := range table {
			if w.n != "place" {
				from = append(from, do(w.op))
			}
		}
		every(from, n, func(l []api.Ins) { met[judged(t, l)]++ })
	}
	for _, e := range []api.Errno{api.OK, api.ErrCode, api.ErrShort, api.ErrRest, api.ErrFlow} {
		if met[e] < 100 {
			t.Errorf("error %d: only %d times", e, met[e])
		}
	}
}

// P15.2, P15.3: all code of four to six instructions, one of each kind, that leads to and fro.
func TestAllShort(t *testing.T) {
	met := map[api.Errno]int{}
	hold := func(l []api.Ins) {
		want, place, asked := checked(l)
		at, e := code.Check(l)
		if depths := code.Depths(l); at != place || e != asked || !slices.Equal(depths, want) {
			t.Fatalf("%v: %v, %d, error %d, not %v, %d, error %d", l, depths, at, e, want, place, asked)
		}
		met[e]++
	}
	for _, n := range []int{4, 5} {
		every(append(leaders(n), push(1), pop, dup, add, answer, refuse), n, hold)
	}
	every(append(leaders(6), push(1), pop, refuse), 6, hold)
	for _, e := range []api.Errno{api.OK, api.ErrShort, api.ErrRest, api.ErrFlow} {
		if met[e] < 10000 {
			t.Errorf("error %d: only %d times", e, met[e])
		}
	}
}

// changed answers a row of instructions of which one is another one.
func changed(r *rand.Rand, l []api.Ins) []api.Ins {
	l = slices.Clone(l)
	at := r.Intn(len(l))
	switch r.Intn(7) {
	case 0:
		l[at].Op = r.Intn(22) - 1
	case 1:
		l[at].N = int64(r.Intn(len(l)+2) - 1)
	case 2:
		l[at] = do(table[r.Intn(len(table))].op)
	case 3:
		l[at] = leaders(len(l))[r.Intn(2*len(l))]
	case 4:
		l = append(slices.Delete(l, at, at+1), refuse)
	case 5:
		l = slices.Insert(l, at, push(value(r)))
	case 6:
		to := r.Intn(len(l))
		l[at], l[to] = l[to], l[at]
	}
	return l
}

// P15.2 to P15.4: code by chance, and such of which some instructions are others.
func TestByChance(t *testing.T) {
	r := rand.New(rand.NewSource(152))
	met := map[api.Errno]int{}
	for k := range 40000 {
		n := 1 + r.Intn(30)
		if k%20 == 0 {
			n = 1 + r.Intn(manyPlace)
		}
		l, plan := chance(r, n)
		if e := judged(t, l); e != api.OK {
			t.Fatalf("%v: error %d", l, e)
		}
		for at, depth := range code.Depths(l) {
			if depth != plan[at] && depth != -1 {
				t.Fatalf("Depths of %v: %d at %d, not %d", l, depth, at, plan[at])
			}
		}
		for range 3 {
			l = changed(r, l)
			met[judged(t, l)]++
		}
	}
	for _, e := range []api.Errno{api.OK, api.ErrCode, api.ErrShort, api.ErrFull, api.ErrRest, api.ErrFlow} {
		if met[e] < 20 {
			t.Errorf("error %d: only %d times", e, met[e])
		}
	}
}
