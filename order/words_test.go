package order_test

import (
	"math"
	"math/rand"
	"slices"
	"testing"

	"inquest/api"
	"inquest/order"
	"inquest/vm"
)

// What the chapter says of an order, written anew, for the tests to hold the package against.

const (
	mostOps  = 64
	mostFuel = 10000
	least    = math.MinInt64
	greatest = math.MaxInt64
)

// ask is what Check is handed.
type ask struct {
	l     []api.Ins
	fuel  int
	ops   []api.Op
	order []int
}

// told answers what Check says.
func (a ask) told() api.Errno { return order.Check(a.l, a.fuel, a.ops, a.order) }

// copied answers the same ask in other memory.
func (a ask) copied() ask {
	return ask{slices.Clone(a.l), a.fuel, slices.Clone(a.ops), slices.Clone(a.order)}
}

// with answers an ask with other fuel.
func (a ask) with(fuel int) ask {
	a.fuel = fuel
	return a
}

// in answers an ask with another order.
func (a ask) in(order ...int) ask {
	a.order = order
	return a
}

// of answers an ask with other code.
func (a ask) of(l ...api.Ins) ask {
	a.l = l
	return a
}

// said answers what Check has to say, by the chapter's words.
func said(a ask) api.Errno {
	if _, e := vm.New(a.l); e != api.OK {
		return e
	}
	if a.fuel < 0 || a.fuel > mostFuel {
		return api.ErrArg
	}
	if len(a.ops) > mostOps {
		return api.ErrBig
	}
	found, lacks := 0, false
	for n, o := range a.ops {
		if slices.Contains(a.order, n) {
			found++
		} else if o.Done {
			lacks = true
		}
	}
	if found != len(a.order) {
		return api.ErrArg // each number that is a place was found once, and no other
	}
	if lacks {
		return api.ErrNone
	}
	if late(a) {
		return api.ErrOrder
	}
	return played(a, api.State{}, 0)
}

// late tells whether one stands ahead of one that is before it.
func late(a ask) bool {
	for i, n := range a.order {
		for _, k := range a.order[i+1:] {
			if a.ops[k].Done && a.ops[k].To < a.ops[n].From {
				return true
			}
		}
	}
	return false
}

// played answers what comes of the operations that stand in order from a place on, each done by a machine of its own.
func played(a ask, cells api.State, from int) api.Errno {
	if from == len(a.order) {
		return api.OK
	}
	o := a.ops[a.order[from]]
	m, _ := vm.New(a.l)
	x := m.Step(cells, o.Op, o.Arg, a.fuel)
	switch {
	case x.Kind != api.Answered:
		return api.ErrStep
	case o.Done && x.Ret != o.Ret:
		return api.ErrRet
	}
	return played(a, x.State, from+1)
}

// judged holds Check against the chapter's words, and answers what it says.
func judged(t *testing.T, a ask) api.Errno {
	t.Helper()
	e := a.told()
	if want := said(a); e != want {
		t.Fatalf("%+v: error %d, not %d", a, e, want)
	}
	return e
}

// tells asks for an answer.
func tells(t *testing.T, want api.Errno, a ask) {
	t.Helper()
	if e := judged(t, a); e != want {
		t.Errorf("%+v: error %d, not %d", a, e, want)
	}
}

// do answers an instruction without a number.
func do(op int) api.Ins { return api.Ins{Op: op} }

// push, load, store, jump and unless answer instructions with one.
func push(n int64) api.Ins   { return api.Ins{Op: api.IPush, N: n} }
func load(n int64) api.Ins   { return api.Ins{Op: api.ILoad, N: n} }
func store(n int64) api.Ins  { return api.Ins{Op: api.IStore, N: n} }
func jump(n int64) api.Ins   { return api.Ins{Op: api.IJump, N: n} }
func unless(n int64) api.Ins { return api.Ins{Op: api.IUnless, N: n} }

// Instructions that the tests use often.
var (
	pop    = do(api.IPop)
	dup    = do(api.IDup)
	arg    = do(api.IArg)
	kind   = do(api.IKind)
	add    = do(api.IAdd)
	sub    = do(api.ISub)
	div    = do(api.IDiv)
	rem    = do(api.IRem)
	answer = do(api.IAnswer)
	refuse = do(api.IRefuse)
)

// Code that the tests use often.
var (
	// cell is the chapter's: kind 0 answers it, another one sets it to arg and answers 0.
	cell = []api.Ins{kind, unless(6), arg, store(0), push(0), answer, load(0), answer}
	// echo answers arg, and keeps nothing.
	echo = []api.Ins{arg, answer}
	// tally adds arg to cell 2 and answers the sum.
	tally = []api.Ins{load(2), arg, add, dup, store(2), answer}
	// shift answers the arg of four operations ahead.
	shift = []api.Ins{load(3), load(2), store(3), load(1), store(2), load(0), store(1), arg, store(0), answer}
	// picky answers arg of kind 0 and refuses others.
	picky = []api.Ins{kind, unless(3), refuse, arg, answer}
	// stuck answers arg of kind 0 and never ends of others.
	stuck = []api.Ins{kind, unless(3), jump(2), arg, answer}
	// burn answers 0 behind 4 instructions and 5 times arg more.
	burn = []api.Ins{arg, dup, unless(6), push(1), sub, jump(1), answer}
	// share answers 100 by arg, and counts in cell 1.
	share = []api.Ins{load(1), push(1), add, store(1), push(100), arg, div, answer}
)

// trade answers code that answers a cell and puts arg there.
func trade(n int64) []api.Ins { return []api.Ins{load(n), arg, store(n), answer} }

// noCode answers rows of instructions that are no code, by vm.New's error.
func noCode() map[api.Errno][][]api.Ins {
	nine := slices.Clip(slices.Repeat([]api.Ins{arg}, 9))
	return map[api.Errno][][]api.Ins{
		api.ErrBig:   {nil, {}, slices.Repeat([]api.Ins{refuse}, 201)},
		api.ErrCode:  {{do(20)}, {do(-1)}, {load(4), answer}, {jump(1)}, {{Op: api.IRefuse, N: 1}}, {push(1), answer, do(math.MaxInt)}},
		api.ErrShort: {{pop}, {answer}, {push(1), add, answer}},
		api.ErrFull:  {append(nine, answer), append(nine, refuse)},
		api.ErrRest:  {{push(1)}, {push(0), unless(0)}},
		api.ErrFlow:  {{push(1), jump(0)}, {push(0), unless(3), push(1), refuse}},
	}
}

// codeErrors are all errors that vm.New has.
var codeErrors = []api.Errno{api.ErrBig, api.ErrCode, api.ErrShort, api.ErrFull, api.ErrRest, api.ErrFlow}

// done answers an operation that is done, open one that is not.
func done(kind int, arg, ret int64, from, to int) api.Op {
	return api.Op{Op: kind, Arg: arg, Done: true, Ret: ret, From: from, To: to}
}

func open(kind int, arg int64, from int) api.Op {
	return api.Op{Op: kind, Arg: arg, From: from, To: -1}
}

// line answers n operations of echo of which each one is before the next one; no two are alike.
func line(n int) []api.Op {
	var l []api.Op
	for k := range n {
		l = append(l, done(0, int64(k+1), int64(k+1), 2*k, 2*k+1))
	}
	return l
}

// crowd answers n operations of echo of which none is before another one.
func crowd(n int) []api.Op {
	var l []api.Op
	for k := range n {
		l = append(l, done(0, int64(k+1), int64(k+1), k, n+k))
	}
	return l
}

// opened answers operations of which none is done.
func opened(l []api.Op) []api.Op {
	l = slices.Clone(l)
	for i := range l {
		l[i].Done = false
	}
	return l
}

// rising answers the numbers from 0 on, n of them.
func rising(n int) []int {
	l := make([]int, n)
	for i := range l {
		l[i] = i
	}
	return l
}

// falling answers them the other way round.
func falling(n int) []int {
	l := rising(n)
	slices.Reverse(l)
	return l
}

// changed answers numbers of which two changed places.
func changed(l []int, i, j int) []int {
	l = slices.Clone(l)
	l[i], l[j] = l[j], l[i]
	return l
}

// rows goes through all rows of n of the numbers from low on and below high.
func rows(n, low, high int, f func(l []int)) {
	l := make([]int, n)
	var fill func(at int)
	fill = func(at int) {
		if at == n {
			f(l)
			return
		}
		for x := low; x < high; x++ {
			l[at] = x
			fill(at + 1)
		}
	}
	fill(0)
}

// shorter goes through all rows of up to n numbers.
func shorter(n, low, high int, f func(l []int)) {
	for k := range n + 1 {
		rows(k, low, high, f)
	}
}

// edges answers numbers at which something may change.
func edges() []int64 {
	return []int64{0, 1, -1, 2, 15, 16, -2, 1 << 31, 1 << 32, -1 << 32, greatest - 1, greatest, least, least + 1}
}

// small answers a number that is often at an edge.
func small(r *rand.Rand) int64 {
	if l := edges(); r.Intn(2) == 0 {
		return l[r.Intn(len(l))]
	}
	return int64(r.Intn(7) - 2)
}

// The code above is what it is said to be.
func TestRows(t *testing.T) {
	for e, lists := range noCode() {
		for _, l := range lists {
			if _, got := vm.New(l); got != e {
				t.Errorf("New of %v: %d, not %d", l, got, e)
			}
		}
	}
	for _, l := range [][]api.Ins{cell, echo, tally, shift, picky, stuck, burn, share, trade(0), trade(3)} {
		if _, e := vm.New(l); e != api.OK {
			t.Errorf("New of %v: %d", l, e)
		}
	}
}
