package vm_test

import (
	"math"
	"math/big"
	"math/rand"
	"slices"
	"testing"

	"inquest/api"
	"inquest/code"
	"inquest/vm"
)

// What the chapter says of a Step, written anew, for the tests to hold the package against.

const (
	manyCells = 4
	manyPlace = 200
	deepest   = 8
	least     = math.MinInt64
	greatest  = math.MaxInt64
)

// takes and puts are how many numbers each Op takes off the stack and puts on it.
var (
	takes = []int{0, 1, 1, 2, 0, 1, 0, 0, 2, 2, 2, 2, 2, 2, 2, 1, 0, 1, 1, 0}
	puts  = []int{1, 0, 2, 2, 1, 0, 1, 1, 1, 1, 1, 1, 1, 1, 1, 1, 0, 0, 0, 0}
)

// wrapped answers a number modulo 2^64, as int64.
func wrapped(x *big.Int) int64 {
	all := new(big.Int).SetUint64(math.MaxUint64)
	return int64(all.And(all, x).Uint64())
}

// one answers 1 of what is so, else 0.
func one(so bool) int64 {
	return map[bool]int64{true: 1}[so]
}

// reckoned answers what comes of two numbers, and whether something does.
func reckoned(op int, a, b int64) (int64, bool) {
	x, y := big.NewInt(a), big.NewInt(b)
	switch op {
	case api.IAdd:
		return wrapped(x.Add(x, y)), true
	case api.ISub:
		return wrapped(x.Sub(x, y)), true
	case api.IMul:
		return wrapped(x.Mul(x, y)), true
	case api.ILess:
		return one(x.Cmp(y) < 0), true
	case api.ISame:
		return one(x.Cmp(y) == 0), true
	}
	if b == 0 {
		return 0, false
	}
	quotient, rest := new(big.Int).QuoRem(x, y, new(big.Int))
	if op == api.IDiv {
		return wrapped(quotient), true
	}
	return wrapped(rest), true
}

// call is what a Step is handed.
type call struct {
	s    api.State
	kind int
	arg  int64
	fuel int
}

// on does a call on a machine.
func (c call) on(m *vm.Machine) api.Step { return m.Step(c.s, c.kind, c.arg, c.fuel) }

// with answers a call with other fuel.
func (c call) with(fuel int) call {
	c.fuel = fuel
	return c
}

// said answers what a Step has to answer, by the chapter's words.
func said(l []api.Ins, c call) api.Step {
	cells, stack, at := c.s, []int64(nil), 0
	for done := 0; done < c.fuel; done++ {
		v := l[at]
		rest := len(stack) - takes[v.Op]
		off := append([]int64{0, 0}, stack[rest:]...)
		a, b := off[len(off)-2], off[len(off)-1]
		stack = stack[:rest]
		at++
		switch v.Op {
		case api.IPush:
			stack = append(stack, v.N)
		case api.IPop:
		case api.IDup:
			stack = append(stack, b, b)
		case api.ISwap:
			stack = append(stack, b, a)
		case api.ILoad:
			stack = append(stack, cells[v.N])
		case api.IStore:
			cells[v.N] = b
		case api.IArg:
			stack = append(stack, c.arg)
		case api.IKind:
			stack = append(stack, int64(c.kind))
		case api.INot:
			stack = append(stack, one(b == 0))
		case api.IJump:
			at = int(v.N)
		case api.IUnless:
			if b == 0 {
				at = int(v.N)
			}
		case api.IAnswer:
			return api.Step{Kind: api.Answered, State: cells, Ret: b, Used: done + 1}
		case api.IRefuse:
			return refused(c, done+1)
		default:
			n, ok := reckoned(v.Op, a, b)
			if !ok {
				return refused(c, done+1)
			}
			stack = append(stack, n)
		}
	}
	return lacked(c)
}

// refused answers the Step of a call that is refused behind so many instructions.
func refused(c call, used int) api.Step {
	return api.Step{Kind: api.Refused, State: c.s, Used: used}
}

// lacked answers the Step of a call whose fuel is too little.
func lacked(c call) api.Step {
	return api.Step{Kind: api.NoFuel, State: c.s, Used: max(0, c.fuel)}
}

// made answers a machine.
func made(t *testing.T, l []api.Ins) *vm.Machine {
	t.Helper()
	m, e := vm.New(l)
	if m == nil || e != api.OK {
		t.Fatalf("New of %v: %v, error %d", l, m, e)
	}
	return m
}

// holds holds a Step of code against the chapter's words, and answers it.
func holds(t *testing.T, c call, l []api.Ins) api.Step {
	t.Helper()
	x := c.on(made(t, l))
	if want := said(l, c); x != want {
		t.Fatalf("%v, %+v: %+v, not %+v", l, c, x, want)
	}
	return x
}

// tells asks for a Step of code.
func tells(t *testing.T, want api.Step, c call, l []api.Ins) {
	t.Helper()
	if x := holds(t, c, l); x != want {
		t.Errorf("%v, %+v: %+v, not %+v", l, c, x, want)
	}
}

// some is a call like any other: no two of its numbers are alike, and none is 0 or 1.
var some = call{s: api.State{11, -12, 13, -14}, kind: 5, arg: -77, fuel: 10000}

// do answers an instruction without a number.
func do(op int) api.Ins { return api.Ins{Op: op} }

// push, load, store, jump and unless answer instructions with one.
func push(n int64) api.Ins   { return api.Ins{Op: api.IPush, N: n} }
func load(n int64) api.Ins   { return api.Ins{Op: api.ILoad, N: n} }
func store(n int64) api.Ins  { return api.Ins{Op: api.IStore, N: n} }
func jump(n int64) api.Ins   { return api.Ins{Op: api.IJump, N: n} }
func unless(n int64) api.Ins { return api.Ins{Op: api.IUnless, N: n} }

// Instructions that the tests use often.
var (
	pop    = do(api.IPop)
	dup    = do(api.IDup)
	swap   = do(api.ISwap)
	arg    = do(api.IArg)
	kind   = do(api.IKind)
	add    = do(api.IAdd)
	sub    = do(api.ISub)
	mul    = do(api.IMul)
	div    = do(api.IDiv)
	rem    = do(api.IRem)
	less   = do(api.ILess)
	same   = do(api.ISame)
	not    = do(api.INot)
	answer = do(api.IAnswer)
	refuse = do(api.IRefuse)
)

// list answers instructions, or rows of them, one behind the other.
func list(rows ...any) []api.Ins {
	var l []api.Ins
	for _, r := range rows {
		switch r := r.(type) {
		case api.Ins:
			l = append(l, r)
		case []api.Ins:
			l = append(l, r...)
		}
	}
	return l
}

// pushes answers instructions that put numbers on the stack, the last one on top.
func pushes(numbers ...int64) []api.Ins {
	var l []api.Ins
	for _, n := range numbers {
		l = append(l, push(n))
	}
	return l
}

// pops answers instructions that take n numbers off the stack.
func pops(n int) []api.Ins { return slices.Repeat(list(pop), n) }

// edges answers numbers at which something may change.
func edges() []int64 {
	return []int64{0, 1, -1, 2, -2, 3, 7, -7, 10, 1 << 31, -1 << 31, 1 << 32, 1<<32 + 1, 3037000500, 1 << 62, -1 << 62, greatest - 1, greatest, least, least + 1}
}

// countdown answers code that adds arg, arg less 1 and so on down to 1 to cell 1 and answers it; cell 0 counts.
func countdown() []api.Ins {
	return []api.Ins{arg, store(0), load(0), unless(13), load(1), load(0), add, store(1), load(0), push(1), sub, store(0), jump(2), load(1), answer}
}

// value answers a number of any length.
func value(r *rand.Rand) int64 { return int64(r.Uint64()) >> r.Intn(64) }

// small answers a number that is often 0, 1 or -1, or at an edge.
func small(r *rand.Rand) int64 {
	switch r.Intn(4) {
	case 0:
		return int64(r.Intn(4) - 1)
	case 1:
		l := edges()
		return l[r.Intn(len(l))]
	}
	return value(r)
}

// chance answers code of n instructions by chance. Half of it goes up to a deep stack first.
func chance(r *rand.Rand, n int) []api.Ins {
	l, plan := make([]api.Ins, n), make([]int, n+1)
	lift := r.Intn(2) * r.Intn(deepest+1)
	for at := range l {
		op := r.Intn(len(takes))
		for takes[op] > plan[at] || plan[at]-takes[op]+puts[op] > deepest || op >= api.IJump && r.Intn(3) > 0 {
			op = r.Intn(len(takes))
		}
		if at < lift {
			op = []int{api.IPush, api.IArg, api.IKind, api.ILoad}[r.Intn(4)]
		}
		l[at].Op = op
		if plan[at+1] = plan[at] - takes[op] + puts[op]; op == api.IJump || op >= api.IAnswer {
			plan[at+1] = r.Intn(4)
		}
	}
	for at := range l {
		l[at] = numbered(r, l[at].Op, at, plan[:n])
	}
	if last := l[n-1].Op; last != api.IJump && last < api.IAnswer {
		if l[n-1] = refuse; plan[n-1] > 0 {
			l[n-1] = answer
		}
	}
	return l
}

// numbered answers an instruction whose N fits in with the depths of all places.
func numbered(r *rand.Rand, op, at int, plan []int) api.Ins {
	switch op {
	case api.IPush:
		return push(small(r))
	case api.ILoad, api.IStore:
		return api.Ins{Op: op, N: int64(r.Intn(manyCells))}
	case api.IJump, api.IUnless:
		for range 40 {
			to := r.Intn(len(plan))
			if plan[to] == plan[at]-takes[op] {
				return api.Ins{Op: op, N: int64(to)}
			}
		}
		if op == api.IJump {
			return jump(int64(at))
		}
		return pop // what takes as much off as IUnless does
	}
	return do(op)
}

// anyCall answers a call by chance.
func anyCall(r *rand.Rand, most int) call {
	c := call{kind: int(small(r)), arg: small(r), fuel: r.Intn(most+3) - 1}
	for i := range c.s {
		c.s[i] = small(r)
	}
	return c
}

// samples answers code of all kinds.
func samples() [][]api.Ins {
	r := rand.New(rand.NewSource(16))
	l := [][]api.Ins{
		{refuse},
		{jump(0)},
		{arg, answer},
		{kind, answer},
		{arg, store(0), push(0), answer},
		{push(1), unless(0), refuse},
		{push(5), push(0), div, answer},
		{arg, kind, rem, dup, store(3), answer},
		{load(3), store(3), load(0), dup, swap, sub, answer},
		{load(0), unless(5), push(1), store(1), jump(0), refuse},
		list(pushes(1, 2, 3, 4, 5, 6, 7, 8), answer),
		countdown(),
		slices.Repeat(list(refuse), manyPlace),
		list(push(7), slices.Repeat(list(not), manyPlace-2), answer),
	}
	for k := range 20 {
		l = append(l, chance(r, 2+3*k))
	}
	return l
}

// noCode answers rows of instructions that do not fit together, by Check's error.
func noCode() map[api.Errno][][]api.Ins {
	return map[api.Errno][][]api.Ins{
		api.ErrBig:   {nil, {}, slices.Repeat(list(refuse), 201), slices.Repeat(list(refuse), 256), slices.Repeat(list(do(20)), 201)},
		api.ErrCode:  {{do(20)}, {do(-1)}, {refuse, do(math.MaxInt)}, {refuse, do(math.MinInt)}, {load(4), answer}, {load(-1), answer}, {push(1), store(4), refuse}, {jump(1)}, {jump(-1)}, {push(0), unless(3), refuse}, {{Op: api.IRefuse, N: 1}}},
		api.ErrShort: {{pop}, {dup, answer}, {push(1), swap, answer}, {push(1), add, answer}, {push(1), pop, answer}, {not, answer}, {answer}, {unless(0)}, {store(0), refuse}},
		api.ErrFull:  {list(pushes(1, 2, 3, 4, 5, 6, 7, 8, 9), answer), list(pushes(1, 2, 3, 4, 5, 6, 7, 8), dup, answer), list(pushes(1, 2, 3, 4, 5, 6, 7, 8), arg, refuse)},
		api.ErrRest:  {{push(1)}, {push(1), pop}, {arg, not}, {push(0), unless(0)}},
		api.ErrFlow:  {{push(1), jump(0)}, {push(0), unless(3), push(1), refuse}, {push(0), push(0), unless(0), refuse}},
	}
}

// checkErrors are all errors that Check has.
var checkErrors = []api.Errno{api.ErrBig, api.ErrCode, api.ErrShort, api.ErrFull, api.ErrRest, api.ErrFlow}

// The rows above are what they are said to be, and the others fit together.
func TestRows(t *testing.T) {
	for e, rows := range noCode() {
		for _, l := range rows {
			if _, got := code.Check(l); got != e {
				t.Errorf("Check of %v: %d, not %d", l, got, e)
			}
		}
	}
	for _, l := range samples() {
		if _, e := code.Check(l); e != api.OK {
			t.Errorf("Check of %v: %d", l, e)
		}
	}
}
