package order_test

import (
	"math"
	"math/rand"
	"slices"
	"testing"

	"inquest/api"
	"inquest/hist"
	"inquest/vm"
)

// codes answers code of all kinds.
func codes() [][]api.Ins {
	return [][]api.Ins{cell, echo, tally, shift, picky, stuck, burn, share, trade(0), trade(1), trade(2), trade(3)}
}

// spread answers n operations that stand in that order as time goes: each has a point of its own, behind those of the ones ahead, between its call and its answer. The places in ops are by chance.
func spread(r *rand.Rand, n int) ([]api.Op, []int) {
	ops, order := make([]api.Op, n), r.Perm(n)
	wide := 1 + r.Intn(60)
	for i, at := range order {
		point := 10 * i
		ops[at] = api.Op{Client: r.Intn(16), Op: r.Intn(3), Arg: small(r), Done: r.Intn(4) > 0, From: point - r.Intn(wide), To: point + r.Intn(wide)}
	}
	return ops, order
}

// lawful answers an ask that is OK, of n operations that stand in order and more that do not, with just as much fuel as is needed, or a little more.
func lawful(r *rand.Rand, n int) ask {
	l := codes()[r.Intn(len(codes()))]
	m, _ := vm.New(l)
	ops, order := spread(r, n)
	need := 0
	var cells api.State
	for _, at := range order {
		o := &ops[at]
		x := m.Step(cells, o.Op, o.Arg, 60)
		for x.Kind != api.Answered {
			o.Op, o.Arg = r.Intn(3), int64(r.Intn(5))
			x = m.Step(cells, o.Op, o.Arg, 60)
		}
		if cells, o.Ret = x.State, x.Ret; !o.Done {
			o.Ret, o.To = small(r), int(small(r))
		}
		need = max(need, x.Used)
	}
	for range r.Intn(min(4, mostOps-n+1)) {
		ops = append(ops, api.Op{Op: r.Intn(3), Arg: small(r), Ret: small(r), From: r.Intn(10 * (n + 1)), To: int(small(r))})
	}
	return ask{l, min(mostFuel, need+r.Intn(3)), ops, order}
}

// length answers how many operations there are, often few.
func length(r *rand.Rand) int {
	if r.Intn(10) == 0 {
		return r.Intn(mostOps + 1)
	}
	return r.Intn(8)
}

// spoil changes something in an ask.
func spoil(r *rand.Rand, a *ask) {
	if n := len(a.order); n > 0 {
		i, j := r.Intn(n), r.Intn(n)
		switch r.Intn(6) {
		case 0:
			a.order = changed(a.order, i, j)
		case 1:
			a.order = changed(a.order, i, max(0, i-1))
		case 2:
			a.order = slices.Delete(a.order, i, i+1)
		case 3:
			a.order = slices.Insert(a.order, j, a.order[i])
		case 4:
			a.order[i] = r.Intn(len(a.ops)+2) - 1
		}
	}
	if n := len(a.ops); n > 0 {
		spoilOne(r, &a.ops[r.Intn(n)])
	}
	switch r.Intn(30) {
	case 0:
		a.fuel = []int{-1, mostFuel + 1, math.MinInt, math.MaxInt}[r.Intn(4)]
	case 1:
		a.l = a.l[:r.Intn(len(a.l))]
	case 2:
		for len(a.ops) <= mostOps {
			a.ops = append(a.ops, api.Op{})
		}
	case 3, 4, 5:
		a.fuel = max(0, a.fuel-1-r.Intn(2))
	case 6, 7:
		a.l = codes()[r.Intn(len(codes()))]
	}
}

// spoilOne changes something in an operation, or nothing.
func spoilOne(r *rand.Rand, o *api.Op) {
	switch r.Intn(14) {
	case 0:
		o.Done = !o.Done
	case 1:
		o.Ret += int64(r.Intn(3) - 1)
	case 2:
		o.Ret = small(r)
	case 3:
		o.From += r.Intn(41) - 20
	case 4:
		o.To += r.Intn(41) - 20
	case 5:
		o.From, o.To = o.To, o.From
	case 6:
		o.From, o.To = int(small(r)), int(small(r))
	case 7:
		o.Op = r.Intn(3)
	case 8:
		o.Arg = small(r)
	}
}

// enough asks that answers were met so many times.
func enough(t *testing.T, met map[api.Errno]int, times int, all ...api.Errno) {
	t.Helper()
	for _, e := range all {
		if met[e] < times {
			t.Errorf("error %d: only %d times", e, met[e])
		}
	}
}

// P17.1: what the code does, in an order that time allows, is OK.
func TestLawful(t *testing.T) {
	r := rand.New(rand.NewSource(170))
	for range 5000 {
		a := lawful(r, length(r))
		tells(t, api.OK, a)
	}
	tells(t, api.OK, lawful(r, 0))
	tells(t, api.OK, lawful(r, mostOps))
}

// P17.1: orders in which one thing, or several, changed.
func TestByChance(t *testing.T) {
	r := rand.New(rand.NewSource(171))
	met := map[api.Errno]int{}
	for range 150000 {
		a := lawful(r, length(r))
		for range 1 + r.Intn(3) {
			if len(a.l) > 0 {
				spoil(r, &a)
			}
		}
		met[judged(t, a)]++
	}
	enough(t, met, 500, api.OK, api.ErrArg, api.ErrBig, api.ErrNone, api.ErrOrder, api.ErrStep, api.ErrRet, api.ErrRest)
	enough(t, met, 20, api.ErrCode)
}

// events answers those of a history by chance, of three clients.
func events(r *rand.Rand, n int) []api.Event {
	var l []api.Event
	waits := make([]bool, 3)
	for range n {
		c := r.Intn(3)
		v := api.Event{Client: c, Call: !waits[c], Val: int64(r.Intn(2))}
		if v.Call {
			v.Op = r.Intn(2)
		}
		waits[c] = v.Call
		l = append(l, v)
	}
	return l
}

// P17.1: all orders of all operations of histories by chance: those of a cell, of a sum.
func TestHistories(t *testing.T) {
	r := rand.New(rand.NewSource(172))
	met := map[api.Errno]int{}
	for range 600 {
		ops, e := hist.Ops(events(r, 1+r.Intn(8)))
		if e != api.OK {
			t.Fatal(e)
		}
		for k := range len(ops) + 1 {
			rows(k, 0, len(ops), func(l []int) {
				met[judged(t, ask{cell, 6, ops, l})]++
				met[judged(t, ask{tally, 6, ops, l})]++
			})
		}
	}
	enough(t, met, 500, api.OK, api.ErrArg, api.ErrNone, api.ErrOrder, api.ErrRet)
}

// P17.1: all short ones: all of up to two operations with small numbers, and all short orders.
func TestAllShort(t *testing.T) {
	met := map[api.Errno]int{}
	for n := range 3 {
		// From, To, and what else there is of each, as a number.
		rows(n*3, 0, 4, func(l []int) {
			ops := make([]api.Op, n)
			for i := range ops {
				from, to, rest := l[3*i], l[3*i+1], l[3*i+2]
				if from == 3 {
					return
				}
				ops[i] = api.Op{Op: 1 - i, Arg: int64(1 - i), Done: rest&1 == 0, Ret: int64(rest >> 1), From: from, To: to - 1}
			}
			shorter(3, -1, n+1, func(order []int) {
				met[judged(t, ask{cell, 6, ops, order})]++
			})
			shorter(2, 0, n, func(order []int) {
				met[judged(t, ask{cell, 5, ops, order})]++
				met[judged(t, ask{picky, 9, ops, order})]++
			})
		})
	}
	enough(t, met, 500, api.OK, api.ErrArg, api.ErrNone, api.ErrOrder, api.ErrStep, api.ErrRet)
}

// P17.1: all times of three operations, Done or not, and all orders of them.
func TestAllTimes(t *testing.T) {
	met := map[api.Errno]int{}
	rows(6, 0, 3, func(l []int) {
		for set := range 8 {
			ops := make([]api.Op, 3)
			for i := range ops {
				ops[i] = api.Op{Done: set>>i&1 == 0, From: l[2*i], To: l[2*i+1]}
			}
			shorter(3, 0, 3, func(order []int) {
				met[judged(t, ask{echo, 2, ops, order})]++
			})
		}
	})
	enough(t, met, 500, api.OK, api.ErrArg, api.ErrNone, api.ErrOrder)
}

// wild answers an ask of which nothing needs to be so.
func wild(r *rand.Rand) ask {
	a := ask{l: slices.Clone(codes()[r.Intn(len(codes()))]), fuel: r.Intn(40)}
	if r.Intn(3) == 0 {
		a.l = make([]api.Ins, r.Intn(8))
		for i := range a.l {
			a.l[i] = api.Ins{Op: r.Intn(22) - 1, N: int64(r.Intn(4))}
		}
	}
	if r.Intn(10) == 0 {
		lists := noCode()[codeErrors[r.Intn(len(codeErrors))]]
		a.l = lists[r.Intn(len(lists))]
	}
	if r.Intn(8) == 0 {
		a.fuel = int(small(r))
	}
	for range length(r) + r.Intn(2) {
		a.ops = append(a.ops, api.Op{Client: int(small(r)), Op: int(small(r)), Arg: small(r), Done: r.Intn(2) == 0, Ret: small(r), From: int(small(r)), To: int(small(r))})
	}
	a.order = r.Perm(len(a.ops))
	if r.Intn(2) == 0 {
		a.order = make([]int, r.Intn(6))
		for i := range a.order {
			a.order[i] = int(small(r))
		}
	}
	return a
}

// R1: no panic comes out of Check, whatever it is handed.
func TestNoPanic(t *testing.T) {
	r := rand.New(rand.NewSource(173))
	met := map[api.Errno]int{}
	for range 100000 {
		met[judged(t, wild(r))]++
	}
	enough(t, met, 100, append(codeErrors, api.OK, api.ErrArg, api.ErrNone, api.ErrOrder, api.ErrStep, api.ErrRet)...)
}
