package vm_test

import (
	"math/rand"
	"slices"
	"testing"

	"inquest/api"
	"inquest/vm"
)

// otherIns is what a list is spoilt with; no test has it otherwise.
var otherIns = api.Ins{Op: 77, N: 77}

// roomy answers a list with room behind its length, and all of its memory.
func roomy(l []api.Ins, filler api.Ins) (part, whole []api.Ins) {
	whole = append(slices.Clone(l), filler, filler, filler, filler)
	return whole[:len(l)], whole
}

// calls answers calls of all kinds.
func calls() []call {
	r := rand.New(rand.NewSource(163))
	l := []call{{}, some, some.with(0), some.with(-1), some.with(3), {arg: 7, fuel: 9}, {kind: 1, fuel: 100}}
	for range 12 {
		l = append(l, anyCall(r, 200))
	}
	return l
}

// R3: instructions that are handed to New are not changed, not behind their length either; what stands there is not done.
func TestInstructionsUnchanged(t *testing.T) {
	rows := samples()
	for _, e := range checkErrors {
		rows = append(rows, noCode()[e]...)
	}
	for _, l := range rows {
		for _, filler := range []api.Ins{otherIns, refuse, jump(0), answer} {
			part, whole := roomy(l, filler)
			was := slices.Clone(whole)
			m, e := vm.New(part)
			if _, asked := vm.New(slices.Clip(slices.Clone(l))); e != asked {
				t.Errorf("%v: error %d, not %d", l, e, asked)
			}
			for _, c := range calls() {
				if x := c.on(m); e == api.OK && x != said(l, c) {
					t.Errorf("%v, %+v: %+v", l, c, x)
				}
			}
			if !slices.Equal(whole, was) {
				t.Errorf("%v came to be %v", was, whole)
			}
		}
	}
}

// R3: what is written into the list behind New changes no Step.
func TestListNotKept(t *testing.T) {
	for _, l := range samples() {
		for _, filler := range []api.Ins{otherIns, refuse, jump(0), push(3), pop, {}} {
			given, whole := roomy(l, refuse)
			m := made(t, given)
			some.on(m)
			for i := range whole {
				whole[i] = filler
			}
			for _, c := range calls() {
				if x := c.on(m); x != said(l, c) {
					t.Fatalf("%v, %+v: %+v, not %+v", l, c, x, said(l, c))
				}
			}
		}
	}
}

// R3, R4: two machines of one list, which is changed between them.
func TestListUsedAgain(t *testing.T) {
	l := []api.Ins{push(1), answer}
	first := made(t, l)
	l[0] = push(2)
	second := made(t, l)
	l[1] = otherIns
	for range 3 {
		if x := first.Step(some.s, 0, 0, 2); x.Ret != 1 || x.Kind != api.Answered {
			t.Errorf("%+v", x)
		}
		if x := second.Step(some.s, 0, 0, 2); x.Ret != 2 || x.Kind != api.Answered {
			t.Errorf("%+v", x)
		}
	}
}

// P16.4: the same call answers the same, whatever was done between; another machine of the same code answers the same.
func TestNoMemory(t *testing.T) {
	r := rand.New(rand.NewSource(165))
	met := map[int]int{}
	for _, l := range samples() {
		m, twin := made(t, l), made(t, l)
		all := calls()
		for range 200 {
			c := all[r.Intn(len(all))]
			want := said(l, c)
			x, again := c.on(m), c.on(m)
			if x != want || again != want {
				t.Fatalf("%v, %+v: %+v, then %+v, not %+v", l, c, x, again, want)
			}
			if r.Intn(2) == 0 {
				anyCall(r, 50).on(m)
			}
			if x := c.on(twin); x != want {
				t.Fatalf("%v, %+v: %+v by another machine, not %+v", l, c, x, want)
			}
			met[x.Kind]++
		}
	}
	for _, kind := range []int{api.Answered, api.Refused, api.NoFuel} {
		if met[kind] < 300 {
			t.Errorf("kind %d: only %d times", kind, met[kind])
		}
	}
}

// P16.4: a refusal, or too little fuel, changes nothing in the next call: not the cells, not the stack, not the place.
func TestBehindRefusal(t *testing.T) {
	l := list(push(6), store(1), load(0), dup, push(100), arg, div, add, dup, store(0), answer)
	m := made(t, l)
	c := call{s: api.State{3, 4, 5, 6}, arg: 7, fuel: 50}
	want := api.Step{Kind: api.Answered, State: api.State{17, 6, 5, 6}, Ret: 17, Used: 11}
	nought := c
	nought.arg = 0
	for k := range 30 {
		if x := nought.on(m); x != refused(c, 7) {
			t.Errorf("by 0: %+v", x)
		}
		if x := c.on(m); x != want {
			t.Errorf("behind a refusal: %+v", x)
		}
		if x := c.with(k % 11).on(m); x != lacked(c.with(k%11)) {
			t.Errorf("with fuel %d: %+v", k%11, x)
		}
		if x := c.on(m); x != want {
			t.Errorf("behind fuel %d: %+v", k%11, x)
		}
	}
	refuses := made(t, []api.Ins{arg, unless(3), refuse, kind, answer})
	for k := range 30 {
		want := api.Step{Kind: api.Answered, State: some.s, Ret: int64(k), Used: 4}
		if x := refuses.Step(some.s, k, 0, 5); x != want {
			t.Errorf("%+v, not %+v", x, want)
		}
		if x := refuses.Step(some.s, k, 1, 5); x != refused(some, 3) {
			t.Errorf("%+v", x)
		}
	}
}

// R4: of two machines neither changes what the other answers.
func TestTwoMachines(t *testing.T) {
	rows := samples()
	r := rand.New(rand.NewSource(166))
	var all []*vm.Machine
	for _, l := range rows {
		all = append(all, made(t, l))
	}
	for range 20000 {
		at := r.Intn(len(all))
		c := anyCall(r, 60)
		if x := c.on(all[at]); x != said(rows[at], c) {
			t.Fatalf("%v, %+v: %+v, not %+v", rows[at], c, x, said(rows[at], c))
		}
	}
}

// R3: the state that is handed in is not changed, and the answer's is another one.
func TestStateUnchanged(t *testing.T) {
	for _, l := range samples() {
		s := some.s
		x := made(t, l).Step(s, some.kind, some.arg, 300)
		if s != some.s {
			t.Errorf("%v: %v came to be %v", l, some.s, s)
		}
		x.State[0]++
		if again := some.with(300); again.on(made(t, l)) != said(l, again) {
			t.Errorf("%v: another answer", l)
		}
	}
}
