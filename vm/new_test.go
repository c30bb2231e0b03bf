package vm_test

import (
	"math"
	"math/rand"
	"slices"
	"testing"

	"inquest/api"
	"inquest/code"
	"inquest/vm"
)

// The chapter's examples.
func TestExamples(t *testing.T) {
	set := []api.Ins{arg, store(0), push(0), answer}
	c := call{arg: 7, fuel: 4}
	tells(t, api.Step{Kind: api.Answered, State: api.State{7}, Used: 4}, c, set)
	tells(t, api.Step{Kind: api.Answered, State: api.State{7}, Used: 4}, c.with(10000), set)
	tells(t, api.Step{Kind: api.NoFuel, Used: 3}, c.with(3), set)
	tells(t, api.Step{Kind: api.Answered, Ret: -2, Used: 4}, call{fuel: 9}, list(push(5), push(7), sub, answer))
	tells(t, api.Step{Kind: api.Refused, Used: 3}, call{fuel: 9}, list(push(5), push(0), div, answer))
}

// P16.1: a machine, and OK, of instructions that fit together.
func TestNew(t *testing.T) {
	for _, l := range samples() {
		holds(t, some.with(500), l)
	}
}

// P16.1: no machine of instructions that do not fit together, and Check's error.
func TestNewOfNoCode(t *testing.T) {
	for _, asked := range checkErrors {
		rows := noCode()[asked]
		if len(rows) < 3 {
			t.Errorf("error %d: only %d rows", asked, len(rows))
		}
		for _, l := range rows {
			if m, e := vm.New(l); m != nil || e != asked {
				t.Errorf("New of %v: %v, error %d, not %d", l, m, e, asked)
			}
		}
	}
}

// P16.1: the error of New is always Check's, and there is a machine just if there is none; code of which one instruction is another one.
func TestNewAsCheck(t *testing.T) {
	r := rand.New(rand.NewSource(161))
	met := map[api.Errno]int{}
	for range 20000 {
		l := chance(r, 1+r.Intn(30))
		at := r.Intn(len(l))
		switch r.Intn(4) {
		case 0:
			l[at].Op = r.Intn(22) - 1
		case 1:
			l[at].N = int64(r.Intn(len(l)+2) - 1)
		case 2:
			l[at] = do(r.Intn(20))
		case 3:
			l = slices.Insert(l, at, push(1))
		}
		_, asked := code.Check(l)
		if m, e := vm.New(l); e != asked || (m != nil) != (e == api.OK) {
			t.Fatalf("New of %v: %v, error %d, not %d", l, m, e, asked)
		}
		met[asked]++
	}
	for _, e := range []api.Errno{api.OK, api.ErrCode, api.ErrShort, api.ErrFull, api.ErrRest, api.ErrFlow} {
		if met[e] < 20 {
			t.Errorf("error %d: only %d times", e, met[e])
		}
	}
}

// P16.1: code as long as it may be, and code of one instruction, with its last place done.
func TestNewLongest(t *testing.T) {
	tells(t, refused(some, 1), some, list(refuse))
	tells(t, lacked(some), some, list(jump(0)))
	for n, ret := range map[int]int64{2: 3, 3: 0, 199: 0, 200: 1} {
		l := slices.Repeat(list(refuse), n)
		l[0] = jump(int64(n - 1))
		tells(t, refused(some, 2), some, l)
		l[n-1] = jump(0)
		tells(t, lacked(some), some, l)
		l = list(push(3), slices.Repeat(list(not), n-2), answer)
		tells(t, api.Step{Kind: api.Answered, State: some.s, Ret: ret, Used: n}, some, l)
		tells(t, lacked(some.with(n-1)), some.with(n-1), l)
	}
}

// P16.1: of no machine, and of one that New did not make: Faulty, and all else 0.
func TestNoMachine(t *testing.T) {
	r := rand.New(rand.NewSource(162))
	calls := []call{{}, some, some.with(0), some.with(1), some.with(-1), some.with(math.MinInt), some.with(math.MaxInt), {s: api.State{least, greatest, -1, 1}, kind: math.MinInt, arg: least, fuel: 10000}}
	for range 1000 {
		calls = append(calls, anyCall(r, 10000))
	}
	var zero vm.Machine
	for _, c := range calls {
		for _, m := range []*vm.Machine{nil, new(vm.Machine), {}, &zero} {
			if x := c.on(m); x != (api.Step{Kind: api.Faulty}) {
				t.Errorf("%+v: %+v", c, x)
			}
		}
	}
	if m, _ := vm.New([]api.Ins{pop}); some.on(m) != (api.Step{Kind: api.Faulty}) {
		t.Error("what New answers beside an error is a machine")
	}
}

// P16.1: the code is done from place 0 on, on the cells of s, and each time anew.
func TestFromBeginning(t *testing.T) {
	m := made(t, []api.Ins{load(0), push(1), add, dup, store(0), answer})
	s := api.State{-3, 5, 6, 7}
	for k := range 20 {
		x := m.Step(s, 0, 0, 6)
		s[0]++
		if x != (api.Step{Kind: api.Answered, State: s, Ret: int64(k - 2), Used: 6}) {
			t.Errorf("Step %d: %+v", k, x)
		}
		m.Step(api.State{100}, 0, 0, k%7)
		s = x.State
	}
}
