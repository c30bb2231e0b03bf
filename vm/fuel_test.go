package vm_test

import (
	"math"
	"math/rand"
	"testing"

	"inquest/api"
)

// ends answers code that ends by itself, each in its own way, and how many instructions it does with the call some.
func ends() map[int][][]api.Ins {
	return map[int][][]api.Ins{
		1: {{refuse}, {refuse, jump(0)}},
		2: {{arg, answer}, {jump(1), refuse}, {push(0), answer}},
		3: {{push(5), push(0), div, answer}, {push(5), push(0), rem, answer}, {push(8), store(0), refuse}},
		4: {{arg, store(0), push(0), answer}, {push(0), unless(3), refuse, push(1), answer}, {push(0), store(2), kind, answer}},
		9: {{push(1), store(0), push(2), store(1), push(3), store(2), push(4), store(3), refuse}, {push(8), store(0), push(9), store(3), push(4), dup, dup, sub, rem, answer}},
	}
}

// P16.2, P16.3: just as much fuel as is used, one less, one more, the greatest int, none, below none.
func TestFuel(t *testing.T) {
	for used, rows := range ends() {
		for _, l := range rows {
			want := holds(t, some, l)
			if want.Used != used || want.Kind == api.NoFuel {
				t.Errorf("%v: %+v", l, want)
			}
			for _, more := range []int{used, used + 1, used + 2, 10000, 10001, 1 << 31, 1 << 32, 1 << 62, math.MaxInt - 1, math.MaxInt} {
				tells(t, want, some.with(more), l)
			}
			for fuel := range used {
				tells(t, api.Step{Kind: api.NoFuel, State: some.s, Used: fuel}, some.with(fuel), l)
			}
			for _, fuel := range []int{0, -1, -2, -used, -10000, -1 << 31, -1 << 32, math.MinInt + 1, math.MinInt} {
				tells(t, api.Step{Kind: api.NoFuel, State: some.s}, some.with(fuel), l)
			}
		}
	}
}

// P16.3: what lacks fuel answers s and 0, though cells were stored into and a number was to be answered next.
func TestLacksFuel(t *testing.T) {
	l := list(push(1), store(0), push(2), store(1), push(3), store(2), push(4), store(3), push(9), answer)
	for fuel := range 10 {
		tells(t, api.Step{Kind: api.NoFuel, State: some.s, Used: fuel}, some.with(fuel), l)
	}
	tells(t, api.Step{Kind: api.Answered, State: api.State{1, 2, 3, 4}, Ret: 9, Used: 10}, some.with(10), l)
}

// P16.2: a loop that ends by a cell that counts down.
func TestCountdown(t *testing.T) {
	l := countdown()
	m := made(t, l)
	for n := range 909 {
		c := call{s: api.State{6, 0, 7, 8}, arg: int64(n), fuel: 10000}
		sum := c.arg * (c.arg + 1) / 2
		used := 11*n + 6
		want := api.Step{Kind: api.Answered, State: api.State{0, sum, 7, 8}, Ret: sum, Used: used}
		for _, fuel := range []int{used, used + 1, 10000} {
			if x := c.with(fuel).on(m); x != want {
				t.Fatalf("%d, fuel %d: %+v, not %+v", n, fuel, x, want)
			}
		}
		if x := c.with(used - 1).on(m); x != lacked(c.with(used-1)) {
			t.Fatalf("%d, fuel %d: %+v", n, used-1, x)
		}
	}
	for _, n := range []int64{909, 910, 10000, greatest, -1, least} {
		tells(t, api.Step{Kind: api.NoFuel, State: some.s, Used: 10000}, call{s: some.s, arg: n, fuel: 10000}, l)
	}
}

// P16.2: loops that never end, with each amount of fuel up to MaxFuel.
func TestEndless(t *testing.T) {
	for _, l := range [][]api.Ins{
		{jump(0)},
		{jump(1), jump(0)},
		{push(0), unless(0), refuse},
		{arg, store(0), jump(0)},
		{load(0), push(1), add, store(0), jump(0)},
		{push(7), not, jump(1)},
		{push(1), push(2), push(3), push(4), push(5), push(6), push(7), push(8), add, arg, jump(8)},
		{load(1), push(3), mul, dup, store(1), pop, push(0), unless(0), push(1), answer},
	} {
		m := made(t, l)
		for fuel := range api.MaxFuel + 1 {
			if fuel > 300 && fuel%97 > 0 && fuel < api.MaxFuel-5 {
				continue
			}
			if x := some.with(fuel).on(m); x != (api.Step{Kind: api.NoFuel, State: some.s, Used: fuel}) {
				t.Fatalf("%v, fuel %d: %+v", l, fuel, x)
			}
		}
		tells(t, api.Step{Kind: api.NoFuel, State: some.s, Used: 100000}, some.with(100000), l)
	}
}

// rounds answers code that goes round as often as cell 0 says, 7 instructions each time, behind so many jumps; the given instruction, on a stack of 5 and 0, is the last of jumps + 7 times rounds + 2.
func rounds(jumps int64, end api.Ins) []api.Ins {
	var l []api.Ins
	for at := range jumps {
		l = append(l, jump(at+1))
	}
	return list(l, load(0), push(1), sub, dup, store(0), unless(jumps+7), jump(jumps), push(5), push(0), end, answer)
}

// P16.2: an instruction that ends it as the very last one that the fuel allows, up to MaxFuel of them.
func TestLastOfFuel(t *testing.T) {
	for _, end := range []api.Ins{answer, refuse, div, rem} {
		for _, n := range []int64{1, 2, 3, 100, 1000, 1428} {
			for jumps := range int64(4) {
				l := rounds(jumps, end)
				c := call{s: api.State{n, 4, 5, 6}}
				used := int(jumps + n*7 + 2)
				want := refused(c, used)
				if end == answer {
					want = api.Step{Kind: api.Answered, State: api.State{0, 4, 5, 6}, Used: used}
				}
				tells(t, want, c.with(used), l)
				tells(t, want, c.with(used+1), l)
				tells(t, lacked(c.with(used-1)), c.with(used-1), l)
				if used <= api.MaxFuel {
					tells(t, want, c.with(api.MaxFuel), l)
				} else {
					tells(t, lacked(c.with(api.MaxFuel)), c.with(api.MaxFuel), l)
				}
			}
		}
	}
}

// P16.4: more fuel changes nothing but NoFuel: each amount, of code by chance.
func TestAllFuel(t *testing.T) {
	r := rand.New(rand.NewSource(164))
	ended := 0
	for range 1500 {
		l := chance(r, 1+r.Intn(40))
		m := made(t, l)
		c := anyCall(r, 0)
		whole := c.with(1000).on(m)
		for fuel := -2; fuel <= 60; fuel++ {
			want := whole
			if whole.Kind == api.NoFuel || fuel < whole.Used {
				want = lacked(c.with(fuel))
			}
			if x := c.with(fuel).on(m); x != want {
				t.Fatalf("%v, %+v, fuel %d: %+v, not %+v", l, c, fuel, x, want)
			}
		}
		if whole.Kind == api.NoFuel {
			continue
		}
		ended++
		for _, fuel := range []int{whole.Used, whole.Used + 1, api.MaxFuel, math.MaxInt} {
			if x := c.with(fuel).on(m); x != whole {
				t.Fatalf("%v, %+v, fuel %d: %+v, not %+v", l, c, fuel, x, whole)
			}
		}
		if x := c.with(whole.Used - 1).on(m); x != lacked(c.with(whole.Used-1)) {
			t.Fatalf("%v, %+v, one less than %d: %+v", l, c, whole.Used, x)
		}
	}
	if ended < 500 {
		t.Errorf("only %d end", ended)
	}
}
