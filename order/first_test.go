package order_test

import (
	"math"
	"slices"
	"testing"

	"inquest/api"
)

// fault is one thing that is wrong, and its error.
type fault struct {
	e    api.Errno
	make func(a *ask)
}

// codeFaults, fuelFaults and the others answer what can be wrong, in different ways.
func codeFaults() []fault {
	var l []fault
	for _, e := range codeErrors {
		l = append(l, fault{e, func(a *ask) { a.l = noCode()[e][0] }})
	}
	return l
}

func fuelFaults() []fault {
	var l []fault
	for _, fuel := range []int{-1, math.MinInt, mostFuel + 1, math.MaxInt} {
		l = append(l, fault{api.ErrArg, func(a *ask) { a.fuel = fuel }})
	}
	return l
}

func bigFaults() []fault {
	return []fault{
		{api.ErrBig, func(a *ask) { a.ops = append(a.ops, opened(line(59))...) }},
		{api.ErrBig, func(a *ask) { a.ops = append(a.ops, line(94)...) }},
	}
}

func placeFaults() []fault {
	return []fault{
		{api.ErrArg, func(a *ask) { a.order = slices.Insert(a.order, 0, -1) }},
		{api.ErrArg, func(a *ask) { a.order = append(a.order, math.MaxInt) }},
		{api.ErrArg, func(a *ask) { a.order = append(a.order, len(a.ops)) }},
		{api.ErrArg, func(a *ask) { a.order = append(a.order, 5, 5) }},
		{api.ErrArg, func(a *ask) { a.order = append([]int{1, 1}, a.order...) }},
	}
}

func noneFaults() []fault {
	return []fault{
		{api.ErrNone, func(a *ask) { a.order = slices.Delete(a.order, 3, 4) }},
		{api.ErrNone, func(a *ask) { a.order = slices.Delete(a.order, 5, 6) }},
		{api.ErrNone, func(a *ask) { a.order = nil }},
	}
}

func orderFaults() []fault {
	return []fault{
		{api.ErrOrder, func(a *ask) { a.order = changed(a.order, 0, 1) }},
		{api.ErrOrder, func(a *ask) { a.order = changed(a.order, 0, 5) }},
		{api.ErrOrder, func(a *ask) { a.ops[5].To = -1 }},
	}
}

func stepFaults() []fault {
	return []fault{
		{api.ErrStep, func(a *ask) { a.ops[2].Op = 1 }},
		{api.ErrStep, func(a *ask) { a.ops[2].Op, a.ops[2].Ret = 1, 0 }},
		{api.ErrStep, func(a *ask) { a.fuel = min(a.fuel, 3) }},
	}
}

func retFaults() []fault {
	return []fault{
		{api.ErrRet, func(a *ask) { a.ops[4].Ret++ }},
		{api.ErrRet, func(a *ask) { a.ops[3].Ret = 0 }},
		{api.ErrRet, func(a *ask) { a.ops[2].Ret-- }},
	}
}

// none is no fault.
var none = fault{api.OK, func(*ask) {}}

// P17.1, R2: of all that is wrong the first is told, whatever else is wrong as well.
func TestFirstError(t *testing.T) {
	levels := [][]fault{codeFaults(), fuelFaults(), bigFaults(), placeFaults(), noneFaults(), orderFaults(), stepFaults(), retFaults()}
	var try func(at int, picked []fault)
	try = func(at int, picked []fault) {
		if at < len(levels) {
			try(at+1, append(slices.Clip(picked), none))
			for _, f := range levels[at] {
				try(at+1, append(slices.Clip(picked), f))
			}
			return
		}
		a := ask{picky, 4, line(6), rising(6)}
		// What changes places changes them ahead of what leaves some out, or puts more in.
		for _, f := range slices.Backward(picked) {
			f.make(&a)
		}
		want := api.OK
		for _, f := range slices.Backward(picked) {
			if f.e != api.OK {
				want = f.e
			}
		}
		if e := a.told(); e != want {
			t.Fatalf("%+v: error %d, not %d", a, e, want)
		}
	}
	try(0, nil)
}

// P17.1: each of the faults alone is one, by the chapter's words.
func TestEachFault(t *testing.T) {
	for _, l := range [][]fault{codeFaults(), fuelFaults(), bigFaults(), placeFaults(), noneFaults(), orderFaults(), stepFaults(), retFaults()} {
		for _, f := range l {
			a := ask{picky, 4, line(6), rising(6)}
			tells(t, api.OK, a)
			f.make(&a)
			tells(t, f.e, a)
		}
	}
}
