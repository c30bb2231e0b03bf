package hist_test

import (
	"math"
	"math/rand"
	"slices"
	"testing"

	"inquest/api"
)

// The chapter's examples of Check.
func TestExampleChecks(t *testing.T) {
	checks(t, 0, api.OK, call(0, 1, 5), call(1, 2, 6), answer(0, 7))
	checks(t, 1, api.ErrState, call(0, 0, 0), call(0, 0, 0))
}

// P14.1: no events, one call, one answer.
func TestCheckShortest(t *testing.T) {
	checks(t, 0, api.OK)
	checks(t, 0, api.OK, []api.Event{}...)
	for client := range manyClients {
		checks(t, 0, api.OK, call(client, 3, 4))
		checks(t, 0, api.ErrState, answer(client, 4))
	}
}

// P14.1: which clients there are, of calls and of answers.
func TestCheckClients(t *testing.T) {
	for _, client := range []int{0, 1, 7, 14, 15} {
		checks(t, 0, api.OK, call(client, 0, 0))
		checks(t, 0, api.OK, call(client, 0, 0), answer(client, 0))
	}
	for _, client := range []int{-1, -2, -15, -16, 16, 17, 31, 32, 255, 256, 1 << 32, -1 << 32, math.MinInt, math.MaxInt} {
		checks(t, 0, api.ErrArg, call(client, 0, 0))
		checks(t, 0, api.ErrArg, answer(client, 0))
		checks(t, 1, api.ErrArg, call(15, 0, 0), call(client, 0, 0))
		checks(t, 1, api.ErrArg, call(0, 0, 0), answer(client, 0))
	}
}

// P14.1: which operations there are.
func TestCheckOperations(t *testing.T) {
	for op := range manyKinds {
		checks(t, 0, api.OK, call(2, op, 0))
	}
	for _, op := range []int{-1, -2, -16, 16, 17, 31, 255, 256, 1 << 32, math.MinInt, math.MaxInt} {
		checks(t, 0, api.ErrArg, call(2, op, 0))
		checks(t, 1, api.ErrArg, call(3, 0, 0), call(2, op, 0))
	}
	checks(t, 0, api.OK, call(2, 5, 0), api.Event{Client: 2, Op: 0, Val: 6})
	for _, op := range []int{1, -1, 2, 5, 15, 16, 256, 1 << 32, math.MinInt, math.MaxInt} {
		checks(t, 1, api.ErrArg, call(2, 5, 0), api.Event{Client: 2, Op: op, Val: 6})
		checks(t, 0, api.ErrArg, api.Event{Client: 2, Op: op, Val: 6})
	}
}

// P14.1: a value may be any.
func TestCheckValues(t *testing.T) {
	for _, val := range append(widths(), math.MinInt64, math.MaxInt64, -1, 0) {
		checks(t, 0, api.OK, call(1, 2, val), answer(1, val))
		checks(t, 0, api.OK, call(1, 2, val), call(0, 1, -val), answer(1, ^val))
	}
}

// P14.1: calls and answers of each client come by turns, a call first.
func TestCheckTurns(t *testing.T) {
	for client := range manyClients {
		other := (client + 1) % manyClients
		checks(t, 1, api.ErrState, call(client, 1, 2), call(client, 1, 2))
		checks(t, 2, api.ErrState, call(client, 1, 2), call(other, 1, 2), call(client, 1, 2))
		checks(t, 3, api.ErrState, call(client, 1, 2), answer(client, 3), call(client, 4, 5), call(client, 1, 2))
		checks(t, 2, api.ErrState, call(client, 1, 2), answer(client, 3), answer(client, 3))
		checks(t, 3, api.ErrState, call(client, 1, 2), answer(client, 3), call(other, 0, 0), answer(client, 3))
		checks(t, 0, api.ErrState, answer(client, 3), call(client, 1, 2))
		checks(t, 1, api.ErrState, call(client, 1, 2), answer(other, 3))
		checks(t, 0, api.OK, call(client, 1, 2), call(other, 1, 2), answer(client, 3), call(client, 0, 1), answer(other, 0), answer(client, 9))
		checks(t, 0, api.OK, joined(byOne(client, 20), []api.Event{call(client, 1, 1)})...)
	}
}

// P14.1: all sixteen clients, by turns and at the same time.
func TestCheckAllClients(t *testing.T) {
	checks(t, 0, api.OK, byTurns(16)...)
	checks(t, 0, api.OK, byTurns(64)...)
	checks(t, 0, api.OK, together(16)...)
	checks(t, 0, api.OK, together(64)...)
	checks(t, 0, api.OK, waiting(16)...)
	for client := range manyClients {
		checks(t, 16, api.ErrState, joined(waiting(16), []api.Event{call(client, 1, 0)})...)
		checks(t, 0, api.OK, joined(waiting(16), []api.Event{answer(client, 1), call(client, 1, 0)})...)
		checks(t, 32, api.ErrState, joined(together(16), []api.Event{answer(client, 1)})...)
	}
}

// P14.1: 64 calls and no more, by one client and by several.
func TestCheckManyCalls(t *testing.T) {
	for _, n := range []int{1, 2, 16, 17, 62, 63, 64} {
		for _, l := range [][]api.Event{byOne(0, n), byOne(15, n), byTurns(n), together(n)} {
			checks(t, 0, api.OK, l...)
		}
	}
	for _, l := range [][]api.Event{byOne(0, 65), byOne(15, 65), byTurns(65), byOne(3, 66), byTurns(200)} {
		checks(t, 128, api.ErrBig, l...)
	}
	checks(t, 128, api.ErrBig, together(65)...)
	checks(t, 0, api.OK, joined(byOne(9, 48), waiting(16))...)
	checks(t, 113, api.ErrBig, joined(byOne(9, 49), waiting(16))...)
	checks(t, 0, api.OK, joined(byOne(9, 49), waiting(15), []api.Event{answer(3, 0), answer(9, 0)})...)
	checks(t, 114, api.ErrBig, joined(byOne(9, 49), waiting(15), []api.Event{answer(3, 0), call(3, 0, 0)})...)
}

// P14.1: which error comes first at one event: ErrArg, ErrBig, ErrState.
func TestCheckFirstError(t *testing.T) {
	full := joined(byOne(9, 63), []api.Event{call(9, 1, 1)}) // 64 calls; 9 waits, nobody else does
	for _, c := range []struct {
		v     api.Event
		asked api.Errno
	}{
		{call(16, 0, 0), api.ErrArg},
		{call(-1, 0, 0), api.ErrArg},
		{call(8, 16, 0), api.ErrArg},
		{call(8, -1, 0), api.ErrArg},
		{call(9, 16, 0), api.ErrArg},
		{call(9, -1, 0), api.ErrArg},
		{call(8, 15, 0), api.ErrBig},
		{call(9, 15, 0), api.ErrBig},
		{api.Event{Client: 8, Op: 1}, api.ErrArg},
		{api.Event{Client: 9, Op: 1}, api.ErrArg},
		{answer(16, 0), api.ErrArg},
		{answer(8, 0), api.ErrState},
	} {
		checks(t, 127, c.asked, joined(full, []api.Event{c.v})...)
	}
	checks(t, 0, api.OK, joined(full, []api.Event{answer(9, 0)})...)
	for _, v := range []api.Event{call(9, 16, 0), call(9, -1, 0), {Client: 8, Op: 1}, {Client: 9, Op: -1}} {
		checks(t, 1, api.ErrArg, call(9, 0, 0), v)
	}
}

// P14.1: the place is that of the first event at which it is none, whatever stands behind.
func TestCheckFirstPlace(t *testing.T) {
	bad := map[api.Errno]api.Event{api.ErrArg: call(0, 16, 0), api.ErrState: answer(14, 0)}
	for at := range 12 {
		for asked, v := range bad {
			for _, later := range bad {
				checks(t, at, asked, joined(byOne(3, 9)[:at], []api.Event{v, later}, byTurns(70))...)
				checks(t, at, asked, joined(byTurns(9)[:at], []api.Event{v}, byOne(13, 3), []api.Event{later})...)
			}
		}
	}
	checks(t, 128, api.ErrBig, joined(byOne(3, 65), []api.Event{call(16, 0, 0), answer(14, 0)})...)
	checks(t, 5, api.ErrState, joined(byOne(3, 3)[:5], []api.Event{call(3, 0, 0)}, byOne(3, 65))...)
}

// every goes through all rows of up to n events out of those that are given.
func every(from []api.Event, n int, do func([]api.Event)) {
	var grow func(l []api.Event)
	grow = func(l []api.Event) {
		do(l)
		if len(l) == n {
			return
		}
		for _, v := range from {
			grow(append(slices.Clone(l), v))
		}
	}
	grow(nil)
}

// P14.1 to P14.3: all short rows of events.
func TestAllShortRows(t *testing.T) {
	met := map[api.Errno]int{}
	every([]api.Event{call(0, 1, 5), call(1, 15, -6), call(2, 0, 0), answer(0, 7), answer(1, 0), answer(2, -1), call(0, 16, 0), {Client: 1, Op: 1}}, 5, func(l []api.Event) {
		met[judged(t, l)]++
	})
	for _, e := range []api.Errno{api.OK, api.ErrArg, api.ErrState} {
		if met[e] < 200 {
			t.Errorf("error %d: only %d times", e, met[e])
		}
	}
}

// changed answers a row of events of which one is another one.
func changed(r *rand.Rand, l []api.Event) []api.Event {
	l = slices.Clone(l)
	at := r.Intn(len(l))
	switch r.Intn(7) {
	case 0:
		l[at].Client = r.Intn(20) - 2
	case 1:
		l[at].Call = !l[at].Call
	case 2:
		l[at].Op = r.Intn(20) - 2
	case 3:
		l[at].Val = value(r)
	case 4:
		l = slices.Delete(l, at, at+1)
	case 5:
		l = slices.Insert(l, at, call(r.Intn(manyClients), r.Intn(manyKinds), value(r)))
	case 6:
		to := r.Intn(len(l))
		l[at], l[to] = l[to], l[at]
	}
	return l
}

// P14.1 to P14.3: rows of events by chance.
func TestRowsByChance(t *testing.T) {
	r := rand.New(rand.NewSource(141))
	met := map[api.Errno]int{}
	for range 6000 {
		l := chance(r, 1+r.Intn(150), 1+r.Intn(manyClients))
		if e := judged(t, l); e != api.OK {
			t.Fatalf("%v: error %d", l, e)
		}
		for range 3 {
			l = changed(r, append(l, call(0, 0, 0)))
			met[judged(t, l)]++
		}
	}
	for _, e := range []api.Errno{api.OK, api.ErrArg, api.ErrBig, api.ErrState} {
		if met[e] < 100 {
			t.Errorf("error %d: only %d times", e, met[e])
		}
	}
}
