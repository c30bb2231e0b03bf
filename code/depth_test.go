package code_test

import (
	"math/rand"
	"slices"
	"testing"

	"inquest/api"
	"inquest/code"
)

// P15.3: depths, with places that nothing leads to.
func TestDepths(t *testing.T) {
	isDeep(t, []int{0}, refuse)
	isDeep(t, []int{0, -1}, refuse, refuse)
	isDeep(t, []int{0, -1, 0}, jump(2), pop, refuse)
	isDeep(t, []int{0, 1, -1, -1}, push(1), answer, add, push(4))
	isDeep(t, []int{0, 0, -1, 0, 1, 0}, jump(3), refuse, refuse, push(0), unless(1), refuse)
	isDeep(t, []int{0, 1, 2, 2, 1, 0}, push(1), dup, do(api.ISwap), do(api.ILess), unless(5), refuse)
	isDeep(t, []int{0, 1, 2, 3, 4, 5, 6, 7, 8, 7, 6}, list(deep(8), pop, add, answer)...)
}

// P15.3: no depths where Check has an error.
func TestDepthsOfNone(t *testing.T) {
	for _, l := range [][]api.Ins{nil, {}, refusals(201), turns(210), {do(20)}, {do(-1)}, {refuse, load(4)}, {pop}, {push(1)}, {push(1), jump(0)}, deep(9), {refuse, {Op: api.IAnswer, N: 1}}} {
		if depths := code.Depths(l); len(depths) != 0 {
			t.Errorf("Depths of %v: %v", l, depths)
		}
	}
}

// P15.3: one number for each place, of code of any length.
func TestDepthsMany(t *testing.T) {
	for n := 2; n <= manyPlace; n++ {
		want := slices.Repeat([]int{1}, n)
		want[0] = 0
		isDeep(t, want, turns(n)...)
		want = slices.Repeat([]int{-1}, n)
		want[0] = 0
		isDeep(t, want, refusals(n)...)
		want[n-1] = 0
		isDeep(t, want, list(jump(int64(n-1)), refusals(n-1))...)
	}
	for n := 1; n <= manyPlace; n++ {
		depths := code.Depths(rising(n))
		if len(depths) != n {
			t.Fatalf("%d depths of %d", len(depths), n)
		}
		for at, depth := range depths {
			if k := at % 16; depth != min(k, 16-k) {
				t.Errorf("%d at %d", depth, at)
			}
		}
	}
}

// spot is a place, and how many numbers are on the stack there.
type spot struct{ at, depth int }

// ways answers the spots to which ways through instructions come, and whether all of them go on well: none takes what is not there, none puts on too much, none goes on behind the last place.
func ways(l []api.Ins) (map[spot]bool, bool) {
	met := map[spot]bool{{}: true}
	well := true
	for todo := []spot{{}}; len(todo) > 0; todo = todo[1:] {
		s := todo[0]
		r := table[l[s.at].Op]
		depth := s.depth - r.takes + r.puts
		if s.depth < r.takes || depth > deepest {
			well = false
			continue
		}
		for _, to := range onward(l[s.at], s.at) {
			next := spot{to, depth}
			if to == len(l) {
				well = false
			} else if !met[next] {
				met[next] = true
				todo = append(todo, next)
			}
		}
	}
	return met, well
}

// followed holds code against all ways through it, and answers whether it fits together.
func followed(t *testing.T, l []api.Ins) bool {
	t.Helper()
	met, well := ways(l)
	depths := code.Depths(l)
	want := slices.Repeat([]int{-1}, len(l))
	for s := range met {
		well = well && want[s.at] == -1
		want[s.at] = s.depth
	}
	if well != (len(depths) > 0) || well && !slices.Equal(depths, want) {
		t.Fatalf("%v: depths %v; all ways go on well: %v, with %v", l, depths, well, want)
	}
	return well
}

// P15.5: along whatever way the stack is as deep as Depths says; and where this is so of all ways, Check is OK. All short code.
func TestAllWaysShort(t *testing.T) {
	fit, many := 0, 0
	for n := 1; n <= 4; n++ {
		every(append(leaders(n), push(1), pop, dup, add, answer, refuse), n, func(l []api.Ins) {
			many++
			if followed(t, l) {
				fit++
			}
		})
	}
	if fit < 1000 || many-fit < 1000 {
		t.Errorf("%d of %d fit together", fit, many)
	}
}

// P15.5: all ways through code by chance, and through such of which some instructions are others.
func TestAllWaysByChance(t *testing.T) {
	r := rand.New(rand.NewSource(155))
	fit, others := 0, 0
	for k := range 3000 {
		n := 1 + r.Intn(25)
		if k%30 == 0 {
			n = 1 + r.Intn(manyPlace)
		}
		l, _ := chance(r, n)
		if !followed(t, l) {
			t.Fatalf("%v does not fit together", l)
		}
		for range 3 {
			l = changed(r, l)
			if _, e := code.Check(l); e == api.ErrCode || e == api.ErrBig {
				break
			}
			if followed(t, l) {
				fit++
			} else {
				others++
			}
		}
	}
	if fit < 300 || others < 300 {
		t.Errorf("%d fit together, %d do not", fit, others)
	}
}

// stepped does one instruction on a stack, and answers the place at which it goes on (below 0: nowhere); IUnless goes either way by chance.
func stepped(r *rand.Rand, v api.Ins, at int, stack []int64) ([]int64, int) {
	w := table[v.Op]
	stack = stack[:len(stack)-w.takes]
	for range w.puts {
		stack = append(stack, r.Int63())
	}
	to := onward(v, at)
	if len(to) == 0 {
		return stack, -1
	}
	return stack, to[r.Intn(len(to))]
}

// P15.5: ways through code, with a stack of numbers, one instruction behind the other.
func TestWaysWithStack(t *testing.T) {
	r := rand.New(rand.NewSource(156))
	for k := range 1500 {
		l, _ := chance(r, 1+r.Intn(1+k%manyPlace))
		depths := code.Depths(l)
		for range 6 {
			stack, at := []int64(nil), 0
			for steps := 0; at >= 0 && steps < 300; steps++ {
				if len(stack) != depths[at] {
					t.Fatalf("%v: %d on the stack at %d, not %d", l, len(stack), at, depths[at])
				}
				stack, at = stepped(r, l[at], at, stack)
			}
		}
	}
}

// P15.5: instructions behind code, to which nothing leads, change no depth ahead of them.
func TestBehindCode(t *testing.T) {
	r := rand.New(rand.NewSource(157))
	for range 3000 {
		l, _ := chance(r, 1+r.Intn(60))
		want := code.Depths(l)
		var more []api.Ins
		many := len(l) + 1 + r.Intn(40)
		for len(l)+len(more) < many {
			v := do(r.Intn(len(table)))
			if table[v.Op].n == "place" {
				v.N = int64(r.Intn(many))
			}
			more = append(more, v)
			want = append(want, -1)
		}
		isDeep(t, want, list(l, more)...)
	}
	for _, l := range samples() {
		want := code.Depths(l)
		for len(l) < manyPlace {
			l, want = append(l, pop), append(want, -1)
		}
		isDeep(t, want, l...)
	}
}
