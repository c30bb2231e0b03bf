package lin_test

import (
	"math"
	"math/rand"
	"slices"
	"testing"

	"inquest/api"
	"inquest/hist"
	"inquest/vm"
)

// kinds are all that a search can tell.
var kinds = []int{api.Fits, api.FitsNot, api.OutFuel, api.OutTry}

// lawful answers an ask of n operations that fit, in an order by chance, and a few more that are not done; with just as much fuel as that order needs, or a little more.
func lawful(r *rand.Rand, n int) ask {
	l := codes()[r.Intn(len(codes()))]
	m, _ := vm.New(l)
	ops := make([]api.Op, n)
	wide := 1 + r.Intn(60)
	need := 0
	var cells api.State
	for i, at := range r.Perm(n) {
		o := api.Op{Client: r.Intn(16), Op: r.Intn(3), Arg: int64(r.Intn(4)), Done: r.Intn(4) > 0, From: 10*i - r.Intn(wide), To: 10*i + r.Intn(wide)}
		x := m.Step(cells, o.Op, o.Arg, 60)
		for range 20 {
			if x.Kind == api.Answered {
				break
			}
			o.Op, o.Arg = r.Intn(3), int64(r.Intn(5))
			x = m.Step(cells, o.Op, o.Arg, 60)
		}
		if cells, o.Ret = x.State, x.Ret; !o.Done {
			o.Ret, o.To = small(r), int(small(r))
		}
		need = max(need, x.Used)
		ops[at] = o
	}
	for range r.Intn(min(3, mostOps-n+1)) {
		ops = append(ops, api.Op{Op: r.Intn(3), Arg: int64(r.Intn(3)), Ret: small(r), From: r.Intn(10 * (n + 1)), To: int(small(r))})
	}
	return ask{l, need + r.Intn(3), 300 + r.Intn(300), ops}
}

// length answers how many operations there are, often few.
func length(r *rand.Rand) int {
	if r.Intn(20) == 0 {
		return r.Intn(mostOps + 1)
	}
	return r.Intn(8)
}

// spoil changes something in an ask.
func spoil(r *rand.Rand, a *ask) {
	if n := len(a.ops); n > 0 {
		spoilOne(r, &a.ops[r.Intn(n)])
	}
	switch r.Intn(30) {
	case 0:
		a.fuel = []int{-1, mostFuel + 1, math.MinInt, math.MaxInt}[r.Intn(4)]
	case 1:
		a.budget = []int{-1, mostTries + 1, math.MinInt, math.MaxInt}[r.Intn(4)]
	case 2:
		a.l = a.l[:r.Intn(len(a.l))]
	case 3:
		for len(a.ops) <= mostOps {
			a.ops = append(a.ops, api.Op{})
		}
	case 4, 5, 6:
		a.fuel = max(0, a.fuel-1-r.Intn(2))
	case 7, 8:
		a.l = codes()[r.Intn(len(codes()))]
	case 9, 10, 11:
		a.budget = r.Intn(2 * (len(a.ops) + 1))
	}
}

// spoilOne changes something in an operation, or nothing.
func spoilOne(r *rand.Rand, o *api.Op) {
	switch r.Intn(12) {
	case 0:
		o.Done = !o.Done
	case 1:
		o.Ret += int64(r.Intn(3) - 1)
	case 2:
		o.Ret = small(r)
	case 3:
		o.From += r.Intn(41) - 20
	case 4:
		o.To += r.Intn(41) - 20
	case 5:
		o.From, o.To = int(small(r)), int(small(r))
	case 6:
		o.Op = r.Intn(3)
	case 7:
		o.Arg = small(r)
	}
}

// P18.1, P18.2: searches by chance, held against the chapter's words: verdict, order, tries.
func TestByChance(t *testing.T) {
	r := rand.New(rand.NewSource(180))
	errors, met := map[api.Errno]int{}, map[int]int{}
	for range 30000 {
		a := lawful(r, length(r))
		for range r.Intn(4) {
			if len(a.l) > 0 {
				spoil(r, &a)
			}
		}
		v, e := judged(t, a)
		errors[e]++
		met[v.Kind]++
	}
	often(t, errors, 200, api.OK, api.ErrArg, api.ErrBig, api.ErrOrder, api.ErrRest)
	often(t, errors, 20, api.ErrCode)
	often(t, met, 500, kinds...)
}

// P18.1, P18.2: what was done in an order that time allows, with fuel and tries enough, fits.
func TestLawful(t *testing.T) {
	r := rand.New(rand.NewSource(181))
	for range 3000 {
		a := lawful(r, r.Intn(6)).with(60).within(mostTries)
		if slices.ContainsFunc(a.l, func(v api.Ins) bool { return v.Op == api.IJump || v.Op == api.IRefuse || v.Op == api.IDiv }) {
			continue // it may lack fuel, or refuse
		}
		if v, e := judged(t, a); e != api.OK || v.Kind != api.Fits {
			t.Fatalf("%+v: %+v, error %d", a, v, e)
		}
	}
}

// events answers those of a history by chance, of so many clients.
func events(r *rand.Rand, n, clients int) []api.Event {
	var l []api.Event
	waits := make([]bool, clients)
	for range n {
		c := r.Intn(clients)
		v := api.Event{Client: c, Call: !waits[c], Val: int64(r.Intn(2))}
		if v.Call {
			v.Op = r.Intn(2)
		}
		waits[c] = v.Call
		l = append(l, v)
	}
	return l
}

// operations answers those of events.
func operations(t *testing.T, l []api.Event) []api.Op {
	t.Helper()
	ops, e := hist.Ops(l)
	if e != api.OK {
		t.Fatal(e)
	}
	return ops
}

// P18.1, P18.2: operations of histories by chance.
func TestHistories(t *testing.T) {
	r := rand.New(rand.NewSource(182))
	met := map[int]int{}
	for range 6000 {
		ops := operations(t, events(r, r.Intn(16), 1+r.Intn(5)))
		for _, l := range [][]api.Ins{cell, tally, lock, keep(2)} {
			v, _ := judged(t, ask{l, 20, mostTries, ops})
			met[v.Kind]++
		}
	}
	often(t, met, 2000, api.Fits, api.FitsNot)
}

// shortOps goes through all rows of n operations of a cell with small numbers: From 0 to 2, To 0 to 2 behind -1, Done or not, told 0 or 1; the kinds by turns.
func shortOps(n int, f func(ops []api.Op)) {
	rows(n*3, 0, 4, func(l []int) {
		ops := make([]api.Op, n)
		for i := range ops {
			from, to, rest := l[3*i], l[3*i+1], l[3*i+2]
			if from == 3 {
				return
			}
			ops[i] = api.Op{Op: 1 - i%2, Arg: int64(1 - i%2), Done: rest&1 == 0, Ret: int64(rest >> 1), From: from, To: to - 1}
		}
		f(ops)
	})
}

// P18.1, P18.2: all short ones: up to two operations in all, three with fewer times; each budget that matters.
func TestAllShort(t *testing.T) {
	errors, met := map[api.Errno]int{}, map[int]int{}
	for n := range 3 {
		shortOps(n, func(ops []api.Op) {
			for _, l := range [][]api.Ins{cell, picky, lock} {
				for _, fuel := range []int{0, 5, 20} {
					for budget := range 6 {
						v, e := judged(t, ask{l, fuel, budget, slices.Clone(ops)})
						errors[e]++
						met[v.Kind]++
					}
				}
			}
		})
	}
	// Three: kinds 0 and 1, told 0 and 1, at 0 and 1.
	rows(9, 0, 3, func(l []int) {
		ops := make([]api.Op, 3)
		for i := range ops {
			from, to, rest := l[3*i], l[3*i+1], l[3*i+2]
			ops[i] = api.Op{Op: i & 1, Arg: 1, Done: rest < 2, Ret: int64(rest & 1), From: from, To: to}
		}
		v, e := judged(t, ask{cell, 20, 99, ops})
		errors[e]++
		met[v.Kind]++
	})
	often(t, errors, 500, api.OK, api.ErrOrder)
	often(t, met, 500, kinds...)
}

// P18.1, P18.2: 64 operations, of few and of many clients, held against the chapter's words.
func TestSixtyFour(t *testing.T) {
	r := rand.New(rand.NewSource(183))
	met := map[int]int{}
	for k := range 60 {
		ops := longOps(r, []int{2, 4, 16}[k%3])
		if k%4 > 0 {
			ops[r.Intn(len(ops))].Ret += 7
		}
		v, e := judged(t, ask{[][]api.Ins{cell, tally, hidden}[k/4%3], 20, 4000, ops})
		if e != api.OK || len(ops) != mostOps {
			t.Fatal(e, len(ops))
		}
		met[v.Kind]++
	}
	often(t, met, 5, api.Fits, api.FitsNot, api.OutTry)
}

// longEvents answers those of 64 operations of a cell by clients that call by chance: each is told what the cell has when it is answered.
func longEvents(r *rand.Rand, clients int) []api.Event {
	var l []api.Event
	var now int64
	calls := make([]api.Event, clients)
	waits := make([]bool, clients)
	for n := 0; n < mostOps; {
		c := r.Intn(clients)
		if !waits[c] {
			calls[c] = api.Event{Client: c, Call: true, Op: r.Intn(2), Val: int64(r.Intn(5))}
			l = append(l, calls[c])
			n++
		} else if calls[c].Op == 1 {
			now = calls[c].Val
			l = append(l, api.Event{Client: c})
		} else {
			l = append(l, api.Event{Client: c, Val: now})
		}
		waits[c] = !waits[c]
	}
	return l
}

// longOps answers their operations.
func longOps(r *rand.Rand, clients int) []api.Op {
	ops, _ := hist.Ops(longEvents(r, clients))
	return ops
}

// P18.1, P18.2: a search of many thousand positions.
func TestManyPositions(t *testing.T) {
	one := func(int) int { return 1 }
	// 13 that may stand anywhere: 2^13 sets.
	tells(t, ask{echo, 2, mostTries, wrong(crowd(14))}, api.FitsNot, ways(13, one))
	tells(t, ask{hidden, 9, mostTries, wrong(told(crowd(12), 0))}, api.FitsNot, ways(11, one))
	// Ten, each set with each last one.
	tells(t, ask{keep(3), 9, mostTries, wrong(told(crowd(11), 0))}, api.FitsNot, ways(10, func(k int) int { return max(1, k) }))
	// Ten at the very end of 64, the others one behind the other: the search comes to them, and to nothing.
	ops := line(54)
	for _, o := range wrong(crowd(10)) {
		o.From, o.To = o.From+1000, o.To+1000
		ops = append(ops, o)
	}
	tells(t, ask{echo, 2, mostTries, ops}, api.FitsNot, 54+ways(9, one))
}

// P18.2: more than the words above can do in good time: 2^18 sets.
func TestMoreThanThat(t *testing.T) {
	x, e := ask{echo, 2, mostTries, wrong(crowd(19))}.task()
	if e != api.OK || !x.Go(math.MaxInt) {
		t.Fatal(e)
	}
	if v, ok := x.Verdict(); !ok || !same(v, api.Verdict{Kind: api.FitsNot, Tries: ways(18, func(int) int { return 1 })}) {
		t.Error(v, ok)
	}
}

// wild answers an ask of which nothing needs to be so.
func wild(r *rand.Rand) ask {
	a := ask{l: slices.Clone(codes()[r.Intn(len(codes()))]), fuel: r.Intn(40), budget: r.Intn(200)}
	if r.Intn(3) == 0 {
		a.l = make([]api.Ins, r.Intn(8))
		for i := range a.l {
			a.l[i] = api.Ins{Op: r.Intn(22) - 1, N: int64(r.Intn(4))}
		}
	}
	if r.Intn(10) == 0 {
		lists := noCode()[codeErrors[r.Intn(len(codeErrors))]]
		a.l = lists[r.Intn(len(lists))]
	}
	if r.Intn(8) == 0 {
		a.fuel = int(small(r))
	}
	if r.Intn(8) == 0 {
		a.budget = min(int(small(r)), 1000)
	}
	for range length(r) + r.Intn(2) {
		o := api.Op{Client: int(small(r)), Op: int(small(r)), Arg: small(r), Done: r.Intn(2) == 0, Ret: small(r), From: int(small(r)), To: int(small(r))}
		if r.Intn(8) > 0 && o.To < o.From {
			o.From, o.To = o.To, o.From
		}
		a.ops = append(a.ops, o)
	}
	return a
}

// R1: no panic comes out of the package, whatever it is handed, operations that no history has as well.
func TestNoPanic(t *testing.T) {
	r := rand.New(rand.NewSource(184))
	errors, met := map[api.Errno]int{}, map[int]int{}
	for range 40000 {
		a := wild(r)
		v, e := judged(t, a)
		errors[e]++
		met[v.Kind]++
		if x, e := a.task(); e == api.OK {
			x.Go(int(small(r)))
			goes(t, a, x, math.MaxInt, v)
		}
	}
	often(t, errors, 100, append(codeErrors, api.OK, api.ErrArg, api.ErrOrder)...)
	often(t, met, 100, kinds...)
}

// R1: operations at the ends of the numbers, many of them.
func TestFarTimes(t *testing.T) {
	r := rand.New(rand.NewSource(185))
	met := map[int]int{}
	for range 3000 {
		var ops []api.Op
		for range 1 + r.Intn(7) {
			o := done(0, 1, int64(1-r.Intn(8)/7), times[r.Intn(len(times))], times[r.Intn(len(times))])
			if o.To < o.From {
				o.From, o.To = o.To, o.From
			}
			o.Done = r.Intn(4) > 0
			ops = append(ops, o)
		}
		v, _ := judged(t, ask{echo, 2, mostTries, ops})
		met[v.Kind]++
	}
	often(t, met, 300, api.Fits, api.FitsNot)
}
