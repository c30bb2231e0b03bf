package order_test

import (
	"math/rand"
	"testing"

	"inquest/api"
	"inquest/hist"
)

// swapped holds what comes of it against P17.2 where each two of an order that time allows, next to one another, change places; it answers how many may, and how many may not.
func swapped(t *testing.T, a ask) (may, not int) {
	t.Helper()
	for i := 1; i < len(a.order); i++ {
		first, second := a.ops[a.order[i-1]], a.ops[a.order[i]]
		e := judged(t, a.in(changed(a.order, i-1, i)...))
		before := hist.Before(first, second)
		if before != (e == api.ErrOrder) {
			t.Fatalf("%+v: %d and %d changed places: error %d", a, i-1, i, e)
		}
		if before {
			not++
		} else {
			may++
		}
	}
	return may, not
}

// P17.2: two that stand next to one another may change places, as far as time goes, if neither is before the other; ErrOrder, if the first is before the second.
func TestChangePlaces(t *testing.T) {
	r := rand.New(rand.NewSource(174))
	may, not := 0, 0
	for range 4000 {
		a := lawful(r, length(r))
		x, y := swapped(t, a)
		may, not = may+x, not+y
		// By echo time alone decides.
		for i, o := range a.ops {
			a.ops[i].Ret = o.Arg
		}
		a = a.of(echo...).with(2)
		tells(t, api.OK, a)
		swapped(t, a)
		for i := 1; i < len(a.order); i++ {
			b := a.in(changed(a.order, i-1, i)...)
			if e := b.told(); e != api.OK && e != api.ErrOrder {
				t.Fatalf("%+v: error %d", b, e)
			}
		}
	}
	if may < 5000 || not < 1000 {
		t.Errorf("only %d may, %d may not", may, not)
	}
}

// P17.2: from an order that time allows one comes to another one by such changes, and stays within it.
func TestManyChanges(t *testing.T) {
	r := rand.New(rand.NewSource(175))
	for range 200 {
		ops, order := spread(r, 2+r.Intn(30))
		for i, o := range ops {
			ops[i].Ret = o.Arg
		}
		a := ask{echo, 2, ops, order}
		for range 200 {
			i := 1 + r.Intn(len(order)-1)
			if hist.Before(ops[a.order[i-1]], ops[a.order[i]]) {
				continue
			}
			a = a.in(changed(a.order, i-1, i)...)
			if e := a.told(); e != api.OK {
				t.Fatalf("%+v: error %d", a, e)
			}
		}
	}
}

// steady holds an ask with more fuel against the same with less: P17.2; it answers what both say.
func steady(t *testing.T, a ask, more int) (api.Errno, api.Errno) {
	t.Helper()
	e, f := judged(t, a), judged(t, a.with(more))
	if e != f && e != api.ErrStep {
		t.Fatalf("%+v: error %d, and %d with %d", a, e, f, more)
	}
	return e, f
}

// P17.2: what is OK is so with more fuel, up to MaxFuel; of what is not OK nothing but ErrStep changes.
func TestMoreFuel(t *testing.T) {
	r := rand.New(rand.NewSource(176))
	met, turned := map[api.Errno]int{}, map[api.Errno]int{}
	for range 20000 {
		a := lawful(r, length(r))
		for range r.Intn(3) {
			if len(a.l) > 0 {
				spoil(r, &a)
			}
		}
		if a.fuel < 0 || a.fuel > mostFuel {
			continue
		}
		for _, more := range []int{a.fuel + 1, a.fuel + r.Intn(30), a.fuel + r.Intn(1000)} {
			e, f := steady(t, a, min(more, mostFuel))
			met[e]++
			if e != f {
				turned[f]++
			}
		}
	}
	enough(t, met, 300, api.OK, api.ErrArg, api.ErrBig, api.ErrNone, api.ErrOrder, api.ErrStep, api.ErrRet)
	enough(t, turned, 100, api.OK, api.ErrRet)
}

// P17.2: each amount of fuel, of code that is done and then is not any more.
func TestEachFuel(t *testing.T) {
	ops := []api.Op{done(0, 1, 0, 0, 1), done(0, 9, 0, 2, 3), done(0, 3, 0, 4, 5)}
	for fuel := range 200 {
		want := api.OK
		if fuel < 4+5*9 {
			want = api.ErrStep
		}
		tells(t, want, ask{burn, fuel, ops, rising(3)})
	}
	for _, fuel := range []int{4 + 5*9, 5000, mostFuel - 1, mostFuel} {
		tells(t, api.OK, ask{burn, fuel, ops, rising(3)})
	}
	// More than can be is no fuel at all.
	tells(t, api.ErrArg, ask{burn, mostFuel + 1, ops, rising(3)})
	// Where the second one told something else, that is seen as soon as it has fuel enough.
	ops[1].Ret = 1
	for fuel := range 200 {
		want := api.ErrRet
		if fuel < 4+5*9 {
			want = api.ErrStep
		}
		tells(t, want, ask{burn, fuel, ops, rising(3)})
	}
	// Where the first one did, fuel for the second is not asked for.
	ops[0].Ret = 1
	for fuel := 4 + 5; fuel < 200; fuel++ {
		tells(t, api.ErrRet, ask{burn, fuel, ops, rising(3)})
	}
}
