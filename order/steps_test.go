package order_test

import (
	"slices"
	"testing"

	"inquest/api"
)

// threes are places of five operations: the first, one between, the last.
var threes = []int{0, 2, 4}

// P17.1: ErrStep where a Step refuses: at any of the operations, done or not, whatever it told.
func TestRefused(t *testing.T) {
	for _, n := range []int{1, 2, 5, 64} {
		for k := range n {
			for _, isDone := range []bool{true, false} {
				for _, ret := range edges() {
					ops := line(n)
					ops[k].Op, ops[k].Done, ops[k].Ret = 1, isDone, ret
					tells(t, api.ErrStep, ask{picky, 9, ops, rising(n)})
					tells(t, api.ErrStep, ask{picky, mostFuel, ops, rising(n)})
					ops[k].Op, ops[k].Ret = 0, ops[k].Arg
					tells(t, api.OK, ask{picky, 9, ops, rising(n)})
				}
			}
		}
	}
	// Not Done, and left out: nobody asks for its Step.
	ops := line(5)
	ops[2].Op, ops[2].Done = 1, false
	tells(t, api.ErrStep, ask{picky, 9, ops, rising(5)})
	tells(t, api.OK, ask{picky, 9, ops, []int{0, 1, 3, 4}})
}

// P17.1: what refuses in other ways: by 0, and all there is.
func TestRefusedOtherwise(t *testing.T) {
	for _, k := range threes {
		for _, v := range []api.Ins{div, rem} {
			ops := line(5)
			for i := range ops {
				ops[i].Arg, ops[i].Ret = 1, map[api.Ins]int64{div: 100}[v]
			}
			a := ask{[]api.Ins{push(100), arg, v, answer}, 4, ops, rising(5)}
			tells(t, api.OK, a)
			ops[k].Arg = 0
			tells(t, api.ErrStep, a)
			ops[k].Ret = 0
			tells(t, api.ErrStep, a)
		}
	}
	tells(t, api.ErrStep, ask{[]api.Ins{refuse}, 1, line(1), rising(1)})
	tells(t, api.OK, ask{[]api.Ins{refuse}, 1, opened(line(1)), nil})
}

// P17.1: ErrStep where a Step lacks fuel: with one less than it needs; none with just as much, and one more.
func TestLacksFuel(t *testing.T) {
	for _, n := range []int{1, 5, 64} {
		for k := range n {
			for _, rounds := range []int64{1, 2, 100} {
				ops := crowd(n)
				for i := range ops {
					ops[i].Arg, ops[i].Ret = 0, 0
				}
				ops[k].Arg = rounds
				need := 4 + 5*int(rounds)
				for _, isDone := range []bool{true, false} {
					ops[k].Done = isDone
					a := ask{burn, need, ops, rising(n)}
					tells(t, api.OK, a)
					tells(t, api.OK, a.with(need+1))
					tells(t, api.OK, a.with(mostFuel))
					tells(t, api.ErrStep, a.with(need-1))
					tells(t, api.ErrStep, a.with(1))
					tells(t, api.ErrStep, a.with(0))
				}
				without := slices.Delete(rising(n), k, k+1)
				tells(t, api.OK, ask{burn, 4, ops, without})
			}
		}
	}
}

// P17.1: a Step that needs just MaxFuel, or one more than that, or never ends.
func TestMostFuel(t *testing.T) {
	longer := append([]api.Ins{jump(1)}, burn...) // one instruction more
	for i, v := range longer {
		if v.Op == api.IUnless || i > 0 && v.Op == api.IJump {
			longer[i].N++
		}
	}
	for _, k := range threes {
		ops := line(5)
		for i := range ops {
			ops[i].Arg, ops[i].Ret = 0, 0
		}
		ops[k].Arg = 1999 // 9999 instructions by burn
		tells(t, api.OK, ask{burn, mostFuel - 1, ops, rising(5)})
		tells(t, api.OK, ask{burn, mostFuel, ops, rising(5)})
		tells(t, api.ErrStep, ask{burn, mostFuel - 2, ops, rising(5)})
		tells(t, api.OK, ask{longer, mostFuel, ops, rising(5)})
		tells(t, api.ErrStep, ask{longer, mostFuel - 1, ops, rising(5)})
		ops[k].Arg = 2000
		tells(t, api.ErrStep, ask{burn, mostFuel, ops, rising(5)})
		ops[k].Arg = -1
		tells(t, api.ErrStep, ask{burn, mostFuel, ops, rising(5)})
		ops = line(5)
		ops[k].Op = 1
		tells(t, api.ErrStep, ask{stuck, mostFuel, ops, rising(5)})
	}
}

// P17.1: each Step has the whole fuel: 64 of them that use it up.
func TestWholeFuel(t *testing.T) {
	for _, rounds := range []int64{0, 1, 7, 1999} {
		ops := crowd(64)
		for i := range ops {
			ops[i].Arg, ops[i].Ret = rounds, 0
		}
		need := 4 + 5*int(rounds)
		for _, l := range [][]int{rising(64), falling(64)} {
			tells(t, api.OK, ask{burn, need, ops, l})
			tells(t, api.ErrStep, ask{burn, need - 1, ops, l})
		}
	}
}

// P17.1: ErrRet where what was told is another one than the Step's, of any operation; none of one that is not Done.
func TestOtherRet(t *testing.T) {
	for _, n := range []int{1, 2, 5, 64} {
		for k := range n {
			for _, ret := range append(edges(), int64(k+2), int64(k), int64(-k-1), int64(k+1)+1<<32) {
				ops := line(n)
				if ret == ops[k].Ret {
					continue
				}
				ops[k].Ret = ret
				tells(t, api.ErrRet, ask{echo, 9, ops, rising(n)})
				ops[k].Done = false
				tells(t, api.OK, ask{echo, 9, ops, rising(n)})
			}
		}
	}
	for _, x := range edges() {
		for _, ret := range edges() {
			want := api.OK
			if x != ret {
				want = api.ErrRet
			}
			tells(t, want, ask{[]api.Ins{push(x), answer}, 2, []api.Op{done(0, 5, ret, 0, 1)}, rising(1)})
		}
	}
}

// P17.1: of ErrStep and ErrRet that of the earlier one in order comes, not that of the earlier one in ops.
func TestEarlierOne(t *testing.T) {
	for _, n := range []int{2, 5, 64} {
		for step := range n {
			for ret := range n {
				ops := crowd(n)
				ops[step].Op = 1
				ops[ret].Ret = -5
				want, back := api.ErrStep, api.ErrStep
				if ret < step {
					want = api.ErrRet
				}
				if ret > step {
					back = api.ErrRet
				}
				for _, l := range [][]api.Ins{picky, stuck} {
					tells(t, want, ask{l, 9, ops, rising(n)})
					tells(t, back, ask{l, 9, ops, falling(n)})
				}
			}
		}
	}
}

// P17.1: the cells are 0 ahead of the first one, and behind it what it left: each of the four.
func TestCells(t *testing.T) {
	for cell := range int64(4) {
		for _, x := range edges() {
			for _, y := range edges() {
				ops := []api.Op{done(0, x, 0, 0, 9), done(0, y, x, 1, 9), done(0, 5, y, 2, 9)}
				tells(t, api.OK, ask{trade(cell), 4, ops, rising(3)})
				tells(t, api.OK, ask{trade(cell), 4, ops[:1], rising(1)})
				ops[2].Ret++
				tells(t, api.ErrRet, ask{trade(cell), 4, ops, rising(3)})
				ops[2].Ret--
				ops[0].Ret = 1
				tells(t, api.ErrRet, ask{trade(cell), 4, ops, rising(3)})
			}
		}
		// The other three stay what they are.
		for other := range int64(4) {
			l := []api.Ins{kind, unless(6), arg, store(cell), push(0), answer, load(other), answer}
			ops := []api.Op{done(1, 8, 0, 0, 9), done(0, 0, 8, 1, 9)}
			want := api.OK
			if other != cell {
				want = api.ErrRet
			}
			tells(t, want, ask{l, 6, ops, rising(2)})
			ops[1].Ret = 0
			tells(t, api.ErrRet-want, ask{l, 6, ops, rising(2)})
		}
	}
}

// P17.1: cells go from each one to the next one, through 64 of them: all four at once.
func TestCellsAllAlong(t *testing.T) {
	const n = 64
	ops, l := make([]api.Op, n), make([]int, n)
	for k := range n {
		place := (k*37 + 11) % n
		l[k] = place
		ops[place] = done(k%16, int64(100+k), int64(max(0, 100+k-4)), 0, 9)
		if k < 4 {
			ops[place].Ret = 0
		}
	}
	a := ask{shift, 10, ops, l}
	tells(t, api.OK, a)
	for k := 4; k < n; k++ {
		tells(t, api.ErrRet, a.in(changed(l, k, k-1)...))
	}
	tells(t, api.ErrRet, a.in(rising(n)...))
	for k := range n {
		wrong := a.copied()
		wrong.ops[l[k]].Ret++
		tells(t, api.ErrRet, wrong)
	}
}

// P17.1: one that is not Done and stands there changes the cells; one that does not stand there does not.
func TestOpenChanges(t *testing.T) {
	ops := []api.Op{done(0, 10, 10, 0, 9), open(0, 5, 1), done(0, 1, 16, 2, 9), open(0, 3, 3)}
	a := ask{tally, 6, ops, []int{0, 1, 2}}
	tells(t, api.OK, a)
	tells(t, api.OK, a.in(0, 1, 2, 3))
	tells(t, api.ErrRet, a.in(0, 2))
	tells(t, api.ErrRet, a.in(0, 2, 1))
	tells(t, api.ErrRet, a.in(1, 0, 2))
	tells(t, api.ErrRet, a.in(0, 3, 2))
	tells(t, api.ErrRet, a.in(0, 1, 3, 2))
	ops[2].Ret = 11
	tells(t, api.OK, a.in(0, 2))
	tells(t, api.OK, a.in(0, 2, 1, 3))
	tells(t, api.OK, a.in(0, 2, 3, 1))
	tells(t, api.ErrRet, a)
}

// P17.1: Op is handed as kind and Arg as argument, whatever they are; nothing else of an operation is.
func TestKindAndArg(t *testing.T) {
	for _, op := range edges() {
		for _, x := range edges() {
			for _, n := range []int{1, 2, 5} {
				ops := crowd(n)
				for i := range ops {
					ops[i] = api.Op{Client: 3, Op: int(op), Arg: x, Done: true, From: i, To: 90}
				}
				for _, c := range []struct {
					l   []api.Ins
					ret int64
				}{{[]api.Ins{kind, answer}, op}, {[]api.Ins{arg, answer}, x}, {[]api.Ins{kind, arg, sub, answer}, op - x}} {
					for i := range ops {
						ops[i].Ret = c.ret
					}
					a := ask{c.l, 4, ops, rising(n)}
					tells(t, api.OK, a)
					ops[n-1].Ret++
					tells(t, api.ErrRet, a)
				}
			}
		}
	}
}

// P17.1: each operation has its own kind and argument.
func TestOwnKindAndArg(t *testing.T) {
	const n = 64
	for _, l := range [][]int{rising(n), falling(n)} {
		ops := crowd(n)
		for i := range ops {
			ops[i].Op, ops[i].Arg, ops[i].Ret = i, int64(1000*i), int64(1001*i)
		}
		a := ask{[]api.Ins{kind, arg, add, answer}, 4, ops, l}
		tells(t, api.OK, a)
		for i := range ops {
			wrong := a.copied()
			wrong.ops[i].Op++
			tells(t, api.ErrRet, wrong)
			wrong = a.copied()
			wrong.ops[i].Arg--
			tells(t, api.ErrRet, wrong)
		}
	}
}

// P17.1: orders of no operation, of one, of 64.
func TestLengths(t *testing.T) {
	tells(t, api.OK, ask{cell, 0, nil, nil})
	tells(t, api.OK, ask{cell, 0, opened(line(64)), []int{}})
	tells(t, api.OK, ask{cell, 6, []api.Op{done(1, 5, 0, 0, 1)}, rising(1)})
	tells(t, api.OK, ask{cell, 4, []api.Op{done(0, 5, 0, 0, 1)}, rising(1)})
	tells(t, api.ErrRet, ask{cell, 6, []api.Op{done(0, 5, 5, 0, 1)}, rising(1)})
	for at := range 64 {
		alone := opened(line(64))
		alone[at].Done = true
		tells(t, api.OK, ask{echo, 2, alone, []int{at}})
	}
	ops := line(64)
	for k := range ops {
		ops[k].Ret = int64((k + 1) * (k + 2) / 2)
	}
	tells(t, api.OK, ask{tally, 6, ops, rising(64)})
	ops[63].Ret++
	tells(t, api.ErrRet, ask{tally, 6, ops, rising(64)})
}
