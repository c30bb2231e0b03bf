package lin_test

import (
	"math"
	"math/rand"
	"slices"
	"testing"

	"inquest/api"
	"inquest/lin"
	"inquest/order"
)

// orders answers all orders, of all sets of the operations, that order.Check takes.
func orders(a ask) [][]int {
	var all [][]int
	var row []int
	var grow func()
	grow = func() {
		if order.Check(a.l, a.fuel, a.ops, row) == api.OK {
			all = append(all, slices.Clone(row))
		}
		for n := range a.ops {
			if !slices.Contains(row, n) {
				row = append(row, n)
				grow()
				row = row[:len(row)-1]
			}
		}
	}
	grow()
	return all
}

// whole holds a search against all orders: P18.4. No Step of it lacks fuel. It answers what the search tells.
func whole(t *testing.T, a ask) int {
	t.Helper()
	a.budget = lin.Enough(len(a.ops))
	x, e := a.task()
	if e != api.OK {
		t.Fatalf("%+v: error %d", a, e)
	}
	if !x.Go(math.MaxInt) {
		t.Fatalf("%+v: not over behind %d tries", a, x.Tries())
	}
	v, ok := x.Verdict()
	all := orders(a)
	want := api.FitsNot
	if len(all) > 0 {
		want = api.Fits
	}
	if !ok || v.Kind != want {
		t.Fatalf("%+v: %+v, %v, where there are the orders %v", a, v, ok, all)
	}
	if want == api.FitsNot {
		return want
	}
	if e := order.Check(a.l, a.fuel, a.ops, v.Order); e != api.OK {
		t.Fatalf("%+v: %+v: error %d", a, v, e)
	}
	if !slices.ContainsFunc(all, func(l []int) bool { return slices.Equal(l, v.Order) }) {
		t.Fatalf("%+v: %+v, not one of %v", a, v, all)
	}
	return want
}

// P18.4: all short histories of a cell: up to six events of two clients, up to five of three.
func TestWholeShort(t *testing.T) {
	met := map[int]int{}
	for _, most := range [][2]int{{2, 6}, {3, 5}} {
		var l []api.Event
		var grow func()
		grow = func() {
			met[whole(t, ask{cell, 6, 0, operations(t, l)})]++
			if len(l) == most[1] {
				return
			}
			for c := range most[0] {
				waits := false
				for _, v := range l {
					if v.Client == c {
						waits = v.Call
					}
				}
				for n := range int64(2) {
					v := api.Event{Client: c, Call: !waits, Val: n}
					if v.Call {
						v.Op, v.Val = int(n), n
					}
					l = append(l, v)
					grow()
					l = l[:len(l)-1]
				}
			}
		}
		grow()
	}
	often(t, met, 1000, api.Fits, api.FitsNot)
}

// P18.4: histories by chance, of code of all kinds that never lacks fuel.
func TestWholeByChance(t *testing.T) {
	r := rand.New(rand.NewSource(186))
	met := map[int]int{}
	for range 2500 {
		ops := operations(t, events(r, r.Intn(11), 1+r.Intn(5)))
		for _, l := range [][]api.Ins{cell, tally, lock, trade(int64(r.Intn(4))), picky, hidden, share} {
			met[whole(t, ask{l, 20, 0, ops})]++
		}
	}
	often(t, met, 2000, api.Fits, api.FitsNot)
}

// P18.4: operations that fit, and such in which something changed, whatever their times are.
func TestWholeLawful(t *testing.T) {
	r := rand.New(rand.NewSource(187))
	met := map[int]int{}
	for range 10000 {
		a := lawful(r, r.Intn(5)).with(mostFuel)
		if slices.ContainsFunc(a.l, func(v api.Ins) bool { return v.Op == api.IJump }) {
			a.l = cell // what goes round may lack fuel
		}
		for range r.Intn(6) {
			if len(a.ops) > 0 {
				spoilOne(r, &a.ops[r.Intn(len(a.ops))])
			}
		}
		if slices.ContainsFunc(a.ops, func(o api.Op) bool { return o.Done && o.To < o.From }) {
			continue
		}
		met[whole(t, a)]++
	}
	often(t, met, 1000, api.Fits, api.FitsNot)
}

// P18.4: the order that is told is one, also of many operations, whatever the budget and the fuel are.
func TestToldIsOne(t *testing.T) {
	r := rand.New(rand.NewSource(188))
	long := 0
	for k := range 4000 {
		a := lawful(r, length(r))
		if k%20 == 0 {
			a = ask{cell, 20, 20000, longOps(r, 1+r.Intn(5))}
		}
		x, e := a.task()
		if e != api.OK {
			t.Fatal(e)
		}
		x.Go(math.MaxInt)
		v, _ := x.Verdict()
		if v.Kind != api.Fits {
			continue
		}
		if e := order.Check(a.l, a.fuel, a.ops, v.Order); e != api.OK {
			t.Fatalf("%+v: %+v: error %d", a, v, e)
		}
		if len(a.ops) == mostOps {
			long++
		}
	}
	if long < 100 {
		t.Errorf("only %d long ones", long)
	}
}

// P18.4: what is told to fit not has no order, where a Step that lacks fuel would be none of one.
func TestLackingFuel(t *testing.T) {
	r := rand.New(rand.NewSource(189))
	met := map[int]int{}
	for range 6000 {
		a := ask{[][]api.Ins{stuck, burn, cell}[r.Intn(3)], r.Intn(8), mostTries, operations(t, events(r, r.Intn(9), 3))}
		v, _ := judged(t, a)
		all := orders(a)
		if v.Kind == api.FitsNot && len(all) > 0 || v.Kind == api.Fits && !slices.ContainsFunc(all, func(l []int) bool { return slices.Equal(l, v.Order) }) {
			t.Fatalf("%+v: %+v, where there are the orders %v", a, v, all)
		}
		met[v.Kind]++
	}
	often(t, met, 300, api.Fits, api.FitsNot, api.OutFuel)
}
