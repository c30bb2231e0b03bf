package code_test

import (
	"slices"
	"testing"

	"inquest/api"
)

// standing answers an instruction that can stand at a place with another one behind it, where it goes on, if it goes on.
func standing(op, place int) api.Ins {
	if table[op].n == "place" {
		return api.Ins{Op: op, N: int64(place + 1)}
	}
	return do(op)
}

// P15.2: each instruction at each depth: ErrShort below what it takes, and not at just that depth; ErrFull where it puts on too much.
func TestEachAtEachDepth(t *testing.T) {
	takes := map[int][]int{
		0: {api.IPush, api.ILoad, api.IArg, api.IKind, api.IJump, api.IRefuse},
		1: {api.IPop, api.IDup, api.IStore, api.INot, api.IUnless, api.IAnswer},
		2: {api.ISwap, api.IAdd, api.ISub, api.IMul, api.IDiv, api.IRem, api.ILess, api.ISame},
	}
	full := []int{api.IPush, api.IDup, api.ILoad, api.IArg, api.IKind}
	many := 0
	for least, ops := range takes {
		for _, op := range ops {
			many++
			for depth := range deepest + 1 {
				l := list(deep(depth), standing(op, depth), refuse)
				switch {
				case depth < least:
					checks(t, depth, api.ErrShort, l...)
				case depth == deepest && slices.Contains(full, op):
					checks(t, depth, api.ErrFull, l...)
				default:
					checks(t, 0, api.OK, l...)
				}
			}
		}
	}
	if many != len(table) {
		t.Errorf("%d instructions", many)
	}
}

// P15.2: the stack has eight numbers at the most.
func TestFull(t *testing.T) {
	for _, v := range []api.Ins{push(-5), load(2), do(api.IArg), do(api.IKind), dup} {
		checks(t, 0, api.OK, list(deep(7), v, refuse)...)
		isDeep(t, []int{0, 1, 2, 3, 4, 5, 6, 7, 8}, list(deep(7), v, answer)...)
		checks(t, 8, api.ErrFull, list(deep(8), v, refuse)...)
		checks(t, 8, api.ErrFull, list(deep(7), v, v, refuse)...)
		checks(t, 10, api.ErrFull, list(deep(8), pop, v, v, refuse)...)
	}
	checks(t, 0, api.OK, list(deep(8), do(api.ISwap), refuse)...)
	checks(t, 0, api.OK, list(deep(8), not, add, dup, answer)...)
	for n := 9; n < 14; n++ {
		checks(t, 8, api.ErrFull, list(deep(n), refuse)...)
	}
}

// P15.2: what ends does so at each depth that is enough for it.
func TestEnds(t *testing.T) {
	checks(t, 0, api.ErrShort, answer)
	checks(t, 0, api.OK, refuse)
	for depth := 1; depth <= deepest; depth++ {
		for _, v := range []api.Ins{answer, refuse} {
			checks(t, 0, api.OK, list(deep(depth), v)...)
			checks(t, 0, api.OK, list(deep(depth), v, pop)...)
			checks(t, 0, api.OK, list(deep(depth), jump(int64(depth+2)), pop, v)...)
		}
	}
}

// P15.2: ErrRest where the last instruction goes on behind it.
func TestRest(t *testing.T) {
	ahead := deep(2)
	for _, w := range table {
		last := do(w.op) // of IUnless: back to 0
		switch w.op {
		case api.IAnswer, api.IRefuse:
			checks(t, 0, api.OK, list(ahead, last)...)
		case api.IJump:
			checks(t, 0, api.OK, jump(0))
			checks(t, 0, api.OK, list(ahead, jump(2))...)
			checks(t, 0, api.OK, list(ahead, jump(4), refuse, jump(3))...)
		default:
			checks(t, 2, api.ErrRest, list(ahead, last)...)
			checks(t, 5, api.ErrRest, list(jump(3), refuse, refuse, ahead, last)...)
			checks(t, 0, api.OK, list(ahead, refuse, last)...) // nothing leads to it
		}
	}
	for _, n := range []int{2, 10, 199, 200} {
		l := turns(n)
		for _, last := range []api.Ins{not, pop, unless(0), unless(int64(n - 1))} {
			l[n-1] = last
			checks(t, n-1, api.ErrRest, l...)
		}
		l[n-1] = jump(int64(n - 1))
		checks(t, 0, api.OK, l...)
	}
}

// P15.2: ErrShort and ErrFull come ahead of ErrRest and ErrFlow.
func TestDepthFirst(t *testing.T) {
	checks(t, 0, api.ErrShort, add)
	checks(t, 0, api.ErrShort, unless(0))
	checks(t, 1, api.ErrShort, push(0), add)
	checks(t, 8, api.ErrFull, deep(9)...)
	checks(t, 8, api.ErrFull, list(deep(8), dup)...)
	checks(t, 2, api.ErrShort, push(0), unless(3), pop, refuse)
	checks(t, 2, api.ErrShort, push(0), unless(3), unless(0), refuse)
	checks(t, 10, api.ErrFull, list(push(0), unless(11), deep(9), refuse)...)
	checks(t, 10, api.ErrFull, list(push(0), unless(11), deep(8), dup, refuse)...)
}

// P15.2: of IUnless the place behind it comes ahead of N.
func TestUnless(t *testing.T) {
	checks(t, 2, api.ErrRest, push(0), push(0), unless(0)) // 0 has another depth
	checks(t, 2, api.ErrRest, push(0), push(0), unless(2)) // so has this place itself
	checks(t, 2, api.ErrRest, push(0), push(0), unless(1)) // 1 has this one
	checks(t, 1, api.ErrRest, push(0), unless(0))
	checks(t, 2, api.ErrFlow, push(0), push(0), unless(0), refuse)
	checks(t, 2, api.ErrFlow, push(0), push(0), unless(2), refuse)
	isDeep(t, []int{0, 1, 2, 1}, push(0), push(0), unless(1), refuse)
	isDeep(t, []int{0, 1, 0}, push(0), unless(2), refuse) // both are one place
	isDeep(t, []int{0, 1, 0, 1, 0}, push(0), unless(4), push(0), unless(4), refuse)
	checks(t, 4, api.ErrFlow, push(0), unless(5), push(0), push(0), unless(5), refuse)
	checks(t, 4, api.ErrFlow, push(0), unless(5), push(0), push(0), unless(3), refuse) // another one behind, the same at N
	checks(t, 4, api.ErrFlow, push(0), unless(5), push(0), push(0), unless(0), refuse) // two others
	checks(t, 4, api.ErrFlow, push(0), unless(5), push(0), push(0), unless(6), refuse, refuse)
}

// P15.2: ErrFlow where a place is led to with another depth; the place that is told is the one that leads there.
func TestFlow(t *testing.T) {
	for _, c := range []struct {
		place int
		l     []api.Ins
	}{
		{2, list(push(0), unless(3), push(0), refuse)},               // by what stands ahead of it
		{2, list(push(0), unless(3), load(0), answer)},               // though IAnswer could use it
		{3, list(push(0), push(0), unless(4), pop, refuse)},          // by one less
		{3, list(push(0), push(0), unless(4), dup, refuse)},          // by one more
		{1, list(push(1), jump(0))},                                  // by a jump back, to the first place
		{2, list(push(1), push(1), jump(1))},                         // to what was gone through just now
		{2, list(push(1), not, jump(0), refuse)},                     // with something behind
		{3, list(push(1), push(1), pop, unless(1), refuse)},          // by IUnless
		{3, list(push(0), unless(4), push(0), jump(4), refuse)},      // by a jump ahead
		{1, list(push(0), unless(1), refuse)},                        // to itself
		{9, list(deep(8), pop, jump(8))},                             // one below the deepest
		{199, list(push(1), slices.Repeat(list(not), 198), jump(0))}, // from the last place to the first one
	} {
		checks(t, c.place, api.ErrFlow, c.l...)
	}
}

// P15.2: a place to which it is led again with the same depth is not gone through again.
func TestLoops(t *testing.T) {
	isDeep(t, []int{0}, jump(0))
	isDeep(t, []int{0, 0}, jump(1), jump(0))
	isDeep(t, []int{0, 1, 0}, push(0), unless(0), refuse)
	isDeep(t, []int{0, 1, 0}, push(0), unless(0), jump(0))
	isDeep(t, []int{0, 1, 2, 1}, push(0), push(0), unless(1), jump(3))
	isDeep(t, []int{0, 1, 2, 3, 2, 1}, push(0), push(0), push(0), unless(2), unless(1), jump(5))
	for _, n := range []int{2, 3, 100, 199, 200} {
		l := make([]api.Ins, n)
		for i := range l {
			l[i] = jump(int64((i + 1) % n))
		}
		isDeep(t, make([]int, n), l...)
		for i := range l {
			l[i] = jump(int64((i + n - 1) % n)) // the other way round
		}
		isDeep(t, make([]int, n), l...)
	}
}

// P15.2: of the places that wait the least one is gone through next; in each of these two errors could be met.
func TestLeastNext(t *testing.T) {
	for _, c := range []struct {
		place int
		asked api.Errno
		l     []api.Ins
	}{
		// What stands behind an IUnless, to its end, ahead of N.
		{2, api.ErrShort, list(push(0), unless(3), pop, pop)},
		{3, api.ErrShort, list(push(0), unless(4), push(0), add, pop)},
		{4, api.ErrShort, list(push(0), unless(5), push(0), pop, add, pop)},
		{2, api.ErrFlow, list(push(0), unless(3), push(0), pop, push(0))},
		{10, api.ErrFull, list(push(0), unless(12), deep(9), refuse, deep(9))},
		// N ahead of what stands behind, where it is a jump back.
		{1, api.ErrShort, list(jump(3), pop, refuse, push(0), unless(1), pop)},
		{1, api.ErrShort, list(jump(3), pop, refuse, push(0), unless(1), push(0))},
		{2, api.ErrShort, list(jump(3), push(0), add, push(0), unless(1), pop)},
		{2, api.ErrFlow, list(jump(3), push(0), jump(3), push(0), unless(1), push(0))},
		{9, api.ErrFull, list(jump(11), deep(9), refuse, push(0), unless(1), deep(9))},
		// Who gives a place its depth: the one that is gone through first.
		{5, api.ErrFlow, list(push(0), unless(4), push(0), jump(6), push(0), push(0), refuse)},
		{6, api.ErrFlow, list(jump(4), push(0), push(0), jump(7), push(0), unless(1), push(0), refuse)},
		// A jump back to a place far ahead of two that wait.
		{1, api.ErrShort, list(jump(5), pop, refuse, pop, refuse, push(0), unless(9), push(0), unless(1), pop)},
		{3, api.ErrShort, list(jump(5), pop, refuse, pop, refuse, push(0), unless(9), push(0), unless(3), pop)},
		{7, api.ErrShort, list(jump(5), pop, refuse, pop, refuse, push(0), unless(9), add, refuse, pop)},
		// One between several that wait comes to wait.
		{6, api.ErrShort, list(push(0), unless(8), push(0), unless(7), jump(6), refuse, pop, pop, pop)},
		{5, api.ErrFlow, list(push(0), unless(8), push(0), unless(7), push(0), jump(7), refuse, pop, pop)},
		// The last instruction goes on behind it, and something is wrong elsewhere.
		{2, api.ErrShort, list(push(0), unless(4), pop, refuse, push(0))},
		{4, api.ErrRest, list(jump(3), pop, refuse, push(0), unless(1))},
	} {
		checks(t, c.place, c.asked, c.l...)
	}
}

// P15.2: rows of jumps back, each of which leaves one more place that waits: what is wrong at the first of them is met first.
func TestRowsBack(t *testing.T) {
	for n := 7; n <= manyPlace; n++ {
		// Behind each jump back something is wrong, too.
		l := back(n)
		for at := n - 1; at >= 3; at -= 3 {
			l[at] = pop
		}
		first := (n-3-1)%3 + 1 // the first place to which it is led back
		checks(t, first+2, api.ErrShort, l...)
		l[1] = pop
		if first == 1 {
			l[1], l[2] = push(0), add
			checks(t, 2, api.ErrShort, l...)
			continue
		}
		checks(t, 1, api.ErrShort, l...)
	}
}
