package vm_test

import (
	"math/rand"
	"slices"
	"testing"

	"inquest/api"
	"inquest/code"
	"inquest/vm"
)

// every goes through all rows of n instructions out of those that are given.
func every(from []api.Ins, n int, f func(l []api.Ins)) {
	l := make([]api.Ins, n)
	var fill func(at int)
	fill = func(at int) {
		if at == n {
			f(l)
			return
		}
		for _, v := range from {
			l[at] = v
			fill(at + 1)
		}
	}
	fill(0)
}

// plain answers every instruction that goes to no place, with some numbers.
func plain() []api.Ins {
	l := []api.Ins{push(0), push(-1), push(least), load(0), load(3), store(0), store(3)}
	for op := range 20 {
		if !slices.Contains([]int{api.IPush, api.ILoad, api.IStore, api.IJump, api.IUnless}, op) {
			l = append(l, do(op))
		}
	}
	return l
}

// leaders answers instructions that lead to each of n places.
func leaders(n int) []api.Ins {
	var l []api.Ins
	for at := range n {
		l = append(l, jump(int64(at)), unless(int64(at)))
	}
	return l
}

// judged holds New and some Steps of instructions against the chapter's words, and answers New's error; met counts how the Steps end.
func judged(t *testing.T, l []api.Ins, met map[int]int, calls ...call) api.Errno {
	t.Helper()
	m, e := vm.New(l)
	if _, asked := code.Check(l); e != asked || (m != nil) != (e == api.OK) {
		t.Fatalf("New of %v: %v, error %d, not %d", l, m, e, asked)
	}
	if e != api.OK {
		return e
	}
	for _, c := range calls {
		x := c.on(m)
		if want := said(l, c); x != want {
			t.Fatalf("%v, %+v: %+v, not %+v", l, c, x, want)
		}
		met[x.Kind]++
	}
	return api.OK
}

// enough asks that Steps ended in each way so many times.
func enough(t *testing.T, met map[int]int, times int) {
	t.Helper()
	for _, kind := range []int{api.Answered, api.Refused, api.NoFuel} {
		if met[kind] < times {
			t.Errorf("kind %d: only %d times", kind, met[kind])
		}
	}
}

// P16.1 to P16.3: all code of up to four instructions, with some of the numbers.
func TestAllShort(t *testing.T) {
	met := map[int]int{}
	fit := 0
	for n := range 5 {
		every(append(plain(), leaders(n)...), n, func(l []api.Ins) {
			if judged(t, l, met, some.with(12), some.with(3), call{arg: 0, kind: -1, fuel: 7}) == api.OK {
				fit++
			}
		})
	}
	if fit < 10000 {
		t.Errorf("only %d fit together", fit)
	}
	enough(t, met, 5000)
}

// P16.1 to P16.3: all code of five instructions of a few kinds, that leads to and fro.
func TestAllFive(t *testing.T) {
	met := map[int]int{}
	from := append(leaders(5), push(1), arg, load(0), store(0), sub, div, not, answer, refuse)
	every(from, 5, func(l []api.Ins) {
		judged(t, l, met, call{s: api.State{2}, arg: 1, fuel: 40}, call{arg: 0, fuel: 9})
	})
	enough(t, met, 5000)
}

// P16.1 to P16.3: all rows of three instructions behind two numbers, of which the last one that is left is answered.
func TestAllBehindTwo(t *testing.T) {
	met := map[int]int{}
	from := append(plain(), unless(5), jump(5), unless(2), jump(4))
	pairs := []call{some.with(20), {arg: -1, kind: least, fuel: 20}, {arg: 0, kind: 7, fuel: 20}, {arg: greatest, kind: greatest, fuel: 5}}
	every(from, 3, func(l []api.Ins) {
		judged(t, list(kind, arg, l, answer), met, pairs...)
		judged(t, list(kind, arg, l, add, answer), met, pairs...)
	})
	enough(t, met, 1000)
}

// P16.1 to P16.3: all rows of two instructions on a stack as full as it may be, with the numbers below told.
func TestAllOnFull(t *testing.T) {
	met := map[int]int{}
	from := append(plain(), unless(10), jump(10))
	every(from, 2, func(l []api.Ins) {
		for deep := 5; deep <= 8; deep++ {
			for off := range 4 {
				judged(t, list(pushes(below[:deep]...), l, pops(off), answer), met, some, some.with(deep+off+2))
			}
		}
	})
	if met[api.Answered] < 1000 {
		t.Errorf("only %d are answered", met[api.Answered])
	}
}

// P16.1 to P16.3: code by chance, also as long as it may be.
func TestByChance(t *testing.T) {
	r := rand.New(rand.NewSource(160))
	met := map[int]int{}
	stored := 0
	for k := range 30000 {
		n := 1 + r.Intn(30)
		if k%20 == 0 {
			n = 1 + r.Intn(manyPlace)
		}
		l := chance(r, n)
		c := anyCall(r, 2*n)
		if e := judged(t, l, met, c, anyCall(r, 2*n), anyCall(r, 400)); e != api.OK {
			t.Fatalf("%v: error %d", l, e)
		}
		if x := said(l, c); x.Kind == api.Answered && x.State != c.s {
			stored++
		}
	}
	if stored < 1000 {
		t.Errorf("only %d changed the cells", stored)
	}
	enough(t, met, 5000)
}

// R1: no panic comes out of New and Step, whatever they are handed.
func TestNoPanic(t *testing.T) {
	r := rand.New(rand.NewSource(167))
	fit := 0
	for range 100000 {
		l := make([]api.Ins, r.Intn(8))
		for i := range l {
			if l[i].Op = r.Intn(22) - 1; r.Intn(3) > 0 {
				l[i].N = int64(r.Intn(len(l)))
			}
			if r.Intn(50) == 0 {
				l[i] = api.Ins{Op: int(value(r)), N: value(r)}
			}
		}
		m, e := vm.New(l)
		x := anyCall(r, 100).on(m)
		if (e == api.OK) != (x.Kind != api.Faulty) {
			t.Fatalf("%v: error %d, %+v", l, e, x)
		}
		if e == api.OK {
			fit++
		}
	}
	if fit < 500 {
		t.Errorf("only %d fit together", fit)
	}
}
