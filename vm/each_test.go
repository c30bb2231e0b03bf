package vm_test

import (
	"math"
	"slices"
	"testing"

	"inquest/api"
)

// below are numbers that lie on the stack below those in question; no two are alike.
var below = []int64{1001, -1002, 1003, -1004, 1005, -1006, 1007, -1008}

// leaves asks what an instruction makes of the stack, and that it costs 1, with 0 and more numbers below, up to the deepest stack: each number is taken from the stack behind it and answered, and so is one that is put on when all are off. The cells are those that are asked for.
func leaves(t *testing.T, c call, v api.Ins, before, after []int64, cells api.State) {
	t.Helper()
	for n := 0; n+max(len(before), len(after)) <= deepest; n++ {
		stack := slices.Concat(below[:n], before)
		want := slices.Concat(below[:n], after)
		for k, ret := range slices.Backward(want) {
			l := list(pushes(stack...), v, pops(len(want)-1-k), answer)
			tells(t, api.Step{Kind: api.Answered, State: cells, Ret: ret, Used: len(l)}, c, l)
			tells(t, lacked(c.with(len(l)-1)), c.with(len(l)-1), l)
		}
		l := list(pushes(stack...), v, pops(len(want)), push(9), answer)
		tells(t, api.Step{Kind: api.Answered, State: cells, Ret: 9, Used: len(l)}, c, l)
	}
}

// makes asks what an instruction makes of the stack, the cells staying as they are.
func makes(t *testing.T, v api.Ins, before, after []int64) {
	t.Helper()
	leaves(t, some, v, before, after, some.s)
}

// P16.2: IPush: N.
func TestPush(t *testing.T) {
	for _, n := range edges() {
		makes(t, push(n), nil, []int64{n})
	}
}

// P16.2: IPop: the top number is gone.
func TestPop(t *testing.T) {
	for _, n := range edges() {
		makes(t, pop, []int64{n}, nil)
		makes(t, pop, []int64{8, n}, []int64{8})
	}
}

// P16.2: IDup: the top number twice, the one below it stays.
func TestDup(t *testing.T) {
	for _, n := range edges() {
		makes(t, dup, []int64{n}, []int64{n, n})
		makes(t, dup, []int64{8, n}, []int64{8, n, n})
		makes(t, dup, []int64{n, 8}, []int64{n, 8, 8})
	}
}

// P16.2: ISwap: the top number below the one that was below it, the third stays.
func TestSwap(t *testing.T) {
	for _, n := range edges() {
		makes(t, swap, []int64{n, 8}, []int64{8, n})
		makes(t, swap, []int64{8, n}, []int64{n, 8})
		makes(t, swap, []int64{9, 8, n}, []int64{9, n, 8})
	}
	l := list(push(3), push(4), swap, swap, answer)
	tells(t, api.Step{Kind: api.Answered, State: some.s, Ret: 4, Used: 5}, some, l)
}

// P16.2: ILoad: the cell's number; the cell keeps it.
func TestLoad(t *testing.T) {
	for at := range manyCells {
		makes(t, load(int64(at)), nil, []int64{some.s[at]})
		for _, n := range edges() {
			c := some
			c.s[at] = n
			leaves(t, c, load(int64(at)), nil, []int64{n}, c.s)
		}
	}
}

// P16.2: IStore: the cell is the top number; the other three stay.
func TestStore(t *testing.T) {
	for at := range manyCells {
		for _, n := range edges() {
			cells := some.s
			cells[at] = n
			leaves(t, some, store(int64(at)), []int64{n}, nil, cells)
			leaves(t, some, store(int64(at)), []int64{8, n}, []int64{8}, cells)
		}
	}
}

// P16.2: what is stored is loaded, from that cell alone, and what is stored twice is the second number.
func TestStoreLoad(t *testing.T) {
	for at := range manyCells {
		for _, n := range edges() {
			cells := some.s
			cells[at] = n
			twice := list(push(99), store(int64(at)), push(n), store(int64(at)))
			for from := range manyCells {
				l := list(push(n), store(int64(at)), load(int64(from)), answer)
				tells(t, api.Step{Kind: api.Answered, State: cells, Ret: cells[from], Used: 4}, some, l)
				l = list(twice, load(int64(from)), answer)
				tells(t, api.Step{Kind: api.Answered, State: cells, Ret: cells[from], Used: 6}, some, l)
			}
		}
	}
	l := list(load(0), load(1), load(2), load(3), store(0), store(1), store(2), store(3), push(0), answer)
	tells(t, api.Step{Kind: api.Answered, State: api.State{-14, 13, -12, 11}, Used: 10}, some, l)
}

// P16.2: IArg and IKind: arg and kind, as often as they are asked for.
func TestArgKind(t *testing.T) {
	for _, n := range edges() {
		c := some
		c.arg = n
		leaves(t, c, arg, nil, []int64{n}, c.s)
		leaves(t, c, kind, nil, []int64{5}, c.s)
		leaves(t, c, arg, []int64{8}, []int64{8, n}, c.s)
		c = some
		c.kind = int(n)
		leaves(t, c, kind, nil, []int64{n}, c.s)
		leaves(t, c, arg, nil, []int64{-77}, c.s)
		leaves(t, c, kind, []int64{8}, []int64{8, n}, c.s)
	}
	l := list(arg, pop, kind, pop, kind, store(0), arg, store(1), kind, arg, sub, answer)
	tells(t, api.Step{Kind: api.Answered, State: api.State{5, -77, 13, -14}, Ret: 82, Used: 12}, some, l)
}

// P16.2: IAdd, ISub, IMul: modulo 2^64, as int64.
func TestSums(t *testing.T) {
	for _, x := range []struct {
		v       api.Ins
		a, b, n int64
	}{
		{add, 5, 7, 12}, {add, -5, 7, 2}, {add, 0, 0, 0},
		{add, greatest, 1, least}, {add, least, -1, greatest}, {add, greatest, -1, greatest - 1}, {add, least, 1, least + 1},
		{add, greatest, 2, least + 1}, {add, greatest, greatest, -2}, {add, least, least, 0}, {add, least, greatest, -1}, {add, greatest, least, -1},
		{sub, 5, 7, -2}, {sub, 7, 5, 2}, {sub, 0, 0, 0},
		{sub, greatest, 1, greatest - 1}, {sub, greatest, -1, least}, {sub, least, 1, greatest}, {sub, least, -1, least + 1}, {sub, least, 2, greatest - 1},
		{sub, 0, least, least}, {sub, -1, least, greatest}, {sub, greatest, least, -1}, {sub, least, greatest, 1}, {sub, least, least, 0}, {sub, greatest, greatest, 0},
		{mul, 5, 7, 35}, {mul, -5, 7, -35}, {mul, -5, -7, 35}, {mul, 0, least, 0},
		{mul, greatest, 1, greatest}, {mul, greatest, -1, least + 1}, {mul, greatest, 2, -2}, {mul, least, 1, least}, {mul, least, -1, least}, {mul, least, 2, 0},
		{mul, greatest, greatest, 1}, {mul, least, least, 0}, {mul, least, greatest, least}, {mul, greatest, least, least}, {mul, 1 << 32, 1 << 32, 0}, {mul, 1 << 32, 1 << 31, least},
	} {
		makes(t, x.v, []int64{x.a, x.b}, []int64{x.n})
	}
}

// P16.2: IDiv, IRem: towards nought, what is left having a's sign.
func TestQuotients(t *testing.T) {
	for _, x := range []struct{ a, b, quotient, rest int64 }{
		{7, 2, 3, 1}, {-7, 2, -3, -1}, {7, -2, -3, 1}, {-7, -2, 3, -1},
		{2, 7, 0, 2}, {-2, 7, 0, -2}, {2, -7, 0, 2}, {-2, -7, 0, -2},
		{6, 3, 2, 0}, {-6, 3, -2, 0}, {6, -3, -2, 0}, {-6, -3, 2, 0},
		{0, 5, 0, 0}, {0, -5, 0, 0}, {0, least, 0, 0}, {5, 1, 5, 0}, {5, -1, -5, 0},
		{least, -1, least, 0}, {least, 1, least, 0}, {least, least, 1, 0}, {least, greatest, -1, -1}, {least, 2, -1 << 62, 0}, {least, -2, 1 << 62, 0}, {least, 3, -3074457345618258602, -2},
		{greatest, -1, least + 1, 0}, {greatest, 1, greatest, 0}, {greatest, greatest, 1, 0}, {greatest, least, 0, greatest}, {greatest, 2, 1<<62 - 1, 1}, {greatest, -2, 1 - 1<<62, 1},
		{least + 1, -1, greatest, 0}, {1, least, 0, 1}, {-1, least, 0, -1}, {1, greatest, 0, 1}, {-1, greatest, 0, -1},
	} {
		makes(t, div, []int64{x.a, x.b}, []int64{x.quotient})
		makes(t, rem, []int64{x.a, x.b}, []int64{x.rest})
	}
}

// P16.2: by 0: refused there, counted, with s and not the cells as they are then.
func TestByNought(t *testing.T) {
	for _, v := range []api.Ins{div, rem} {
		for _, a := range edges() {
			for n := 0; n+2 <= deepest; n++ {
				l := list(pushes(below[:n]...), push(a), push(0), v, answer)
				tells(t, refused(some, n+3), some, l)
				tells(t, refused(some, n+3), some.with(n+3), l)
				tells(t, lacked(some.with(n+2)), some.with(n+2), l)
			}
			l := list(push(8), store(0), push(9), store(3), push(a), dup, dup, sub, v, answer)
			tells(t, refused(some, 9), some, l)
		}
		c := some
		c.arg = 0
		tells(t, refused(c, 4), c, list(push(7), dup, arg, v, store(1), answer))
		tells(t, refused(c, 3), c, list(arg, dup, v, jump(4), answer))
	}
}

// P16.2: ILess, ISame: 1 or 0.
func TestCompared(t *testing.T) {
	rising := []int64{least, least + 1, -1 << 32, -2, -1, 0, 1, 2, 1 << 32, greatest - 1, greatest}
	for i, a := range rising {
		for j, b := range rising {
			makes(t, less, []int64{a, b}, []int64{one(i < j)})
			makes(t, same, []int64{a, b}, []int64{one(i == j)})
		}
	}
}

// P16.2: INot: 1 of 0, else 0.
func TestNot(t *testing.T) {
	for _, n := range edges() {
		makes(t, not, []int64{n}, []int64{one(n == 0)})
		makes(t, not, []int64{8, n}, []int64{8, one(n == 0)})
	}
	makes(t, not, []int64{0}, []int64{1})
	makes(t, not, []int64{1}, []int64{0})
}

// P16.2: which of two numbers is the top one.
func TestTopOne(t *testing.T) {
	for _, x := range []struct {
		v    api.Ins
		n, m int64 // of 20 below 6, of 6 below 20
	}{{add, 26, 26}, {sub, 14, -14}, {mul, 120, 120}, {div, 3, 0}, {rem, 2, 6}, {less, 0, 1}, {same, 0, 0}, {swap, 20, 6}} {
		for _, l := range [][]api.Ins{list(push(20), push(6), x.v, answer), list(push(6), push(20), swap, x.v, answer)} {
			tells(t, api.Step{Kind: api.Answered, State: some.s, Ret: x.n, Used: len(l)}, some, l)
		}
		l := list(push(6), push(20), x.v, answer)
		tells(t, api.Step{Kind: api.Answered, State: some.s, Ret: x.m, Used: 4}, some, l)
	}
}

// P16.2: each instruction that takes two numbers, at all edges, on a stack that holds just them and on a full one.
func TestTwoNumbers(t *testing.T) {
	for op := api.IAdd; op <= api.ISame; op++ {
		for _, a := range edges() {
			for _, b := range edges() {
				holds(t, some, list(push(a), push(b), do(op), answer))
				holds(t, some, list(pushes(below[:6]...), push(a), push(b), do(op), answer))
			}
		}
	}
}

// P16.2: IJump: on, back and to itself, with an empty stack and with a full one.
func TestJump(t *testing.T) {
	for n := range deepest + 1 {
		l := list(pushes(below[:n]...), jump(int64(n+2)), refuse, push(3), answer)
		if n == deepest {
			l[n+2] = not
		}
		want := int64(3 * one(n < deepest))
		tells(t, api.Step{Kind: api.Answered, State: some.s, Ret: want, Used: n + 3}, some, l)
		l = list(pushes(below[:n]...), jump(int64(n)))
		tells(t, lacked(some), some, l)
	}
	back := list(jump(3), push(4), answer, jump(1))
	tells(t, api.Step{Kind: api.Answered, State: some.s, Ret: 4, Used: 4}, some, back)
	behind := list(jump(1), jump(2), push(4), answer)
	tells(t, api.Step{Kind: api.Answered, State: some.s, Ret: 4, Used: 4}, some, behind)
	for at := range 200 {
		l := slices.Repeat(list(push(-1)), 200)
		l[0], l[at] = jump(int64(at)), refuse
		if at > 0 {
			tells(t, refused(some, 2), some, l)
		}
	}
}

// P16.2: IUnless: at N, if nought is on top, else behind; ahead, back and right behind it.
func TestUnless(t *testing.T) {
	for _, n := range edges() {
		for deep := range deepest {
			stack := pushes(below[:deep]...)
			// Ahead.
			l := list(stack, push(n), unless(int64(deep+3)), refuse, push(3), answer)
			if n == 0 {
				tells(t, api.Step{Kind: api.Answered, State: some.s, Ret: 3, Used: deep + 4}, some, l)
			} else {
				tells(t, refused(some, deep+3), some, l)
			}
			// Right behind it.
			l = list(stack, push(n), unless(int64(deep+2)), push(3), answer)
			tells(t, api.Step{Kind: api.Answered, State: some.s, Ret: 3, Used: deep + 4}, some, l)
			// Back, to where it goes round and round.
			l = list(stack, push(n), unless(int64(deep)), push(3), answer)
			if n == 0 {
				tells(t, lacked(some), some, l)
			} else {
				tells(t, api.Step{Kind: api.Answered, State: some.s, Ret: 3, Used: deep + 4}, some, l)
			}
			// Back, to another end.
			l = list(jump(3), push(4), answer, push(n), unless(1), push(3), answer)
			if n == 0 {
				tells(t, api.Step{Kind: api.Answered, State: some.s, Ret: 4, Used: 5}, some, l)
			} else {
				tells(t, api.Step{Kind: api.Answered, State: some.s, Ret: 3, Used: 5}, some, l)
			}
		}
	}
}

// P16.2: IUnless takes the top number off, whichever way it goes.
func TestUnlessTakes(t *testing.T) {
	for _, n := range []int64{0, 1, -1, least, greatest} {
		for deep := 1; deep < deepest; deep++ {
			for off := range deep {
				l := list(pushes(below[:deep]...), push(n), unless(int64(deep+2)), pops(off), answer)
				tells(t, api.Step{Kind: api.Answered, State: some.s, Ret: below[deep-1-off], Used: len(l)}, some, l)
			}
		}
	}
}

// P16.2, P16.3: IAnswer: the top number, with one on the stack and with more, up to eight; the cells as they are then.
func TestAnswer(t *testing.T) {
	for _, n := range edges() {
		for deep := range deepest {
			l := list(pushes(below[:deep]...), push(n), answer)
			tells(t, api.Step{Kind: api.Answered, State: some.s, Ret: n, Used: deep + 2}, some, l)
			l = list(push(8), store(1), push(n), store(2), pushes(below[:deep]...), push(n), answer)
			tells(t, api.Step{Kind: api.Answered, State: api.State{11, 8, n, -14}, Ret: n, Used: deep + 6}, some, l)
		}
	}
}

// P16.2, P16.3: IRefuse: s, whatever was stored and whatever is on the stack.
func TestRefuse(t *testing.T) {
	tells(t, refused(some, 1), some, list(refuse))
	tells(t, refused(call{fuel: 1}, 1), call{fuel: 1}, list(refuse))
	for deep := range deepest + 1 {
		tells(t, refused(some, deep+1), some, list(pushes(below[:deep]...), refuse))
		for at := range int64(manyCells) {
			l := list(push(8), store(at), pushes(below[:deep]...), refuse)
			tells(t, refused(some, deep+3), some, l)
		}
	}
	l := list(push(1), store(0), push(2), store(1), push(3), store(2), push(4), store(3), refuse)
	tells(t, refused(some, 9), some, l)
}

// P16.2: kind and arg at the least and the greatest, side by side.
func TestArgKindFar(t *testing.T) {
	c := call{kind: math.MinInt, arg: greatest, fuel: 9}
	tells(t, api.Step{Kind: api.Answered, State: api.State{least, greatest}, Ret: 1, Used: 8}, c, list(kind, store(0), arg, store(1), kind, arg, less, answer))
	c = call{kind: math.MaxInt, arg: least, fuel: 9}
	tells(t, api.Step{Kind: api.Answered, Ret: -1, Used: 4}, c, list(kind, arg, sub, answer))
}
