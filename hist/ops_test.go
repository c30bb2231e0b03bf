package hist_test

import (
	"math"
	"math/rand"
	"slices"
	"testing"

	"inquest/api"
	"inquest/hist"
)

// makes asks for the operations of a history.
func makes(t *testing.T, l []api.Event, want ...api.Op) {
	t.Helper()
	if ops, e := hist.Ops(l); e != api.OK || !slices.Equal(ops, want) {
		t.Errorf("Ops of %v: %v, error %d, not %v", l, ops, e, want)
	}
	judged(t, l)
}

// done answers an operation that is done.
func done(client, op int, arg, ret int64, from, to int) api.Op {
	return api.Op{Client: client, Op: op, Arg: arg, Done: true, Ret: ret, From: from, To: to}
}

// open answers one that is not.
func open(client, op int, arg int64, from int) api.Op {
	return api.Op{Client: client, Op: op, Arg: arg, From: from, To: -1}
}

// The chapter's example of operations.
func TestExampleOps(t *testing.T) {
	makes(t, []api.Event{call(0, 1, 5), call(1, 2, 6), answer(0, 7)}, done(0, 1, 5, 7, 0, 2), open(1, 2, 6, 1))
}

// P14.3: operations, field by field.
func TestOps(t *testing.T) {
	makes(t, nil)
	makes(t, []api.Event{call(15, 15, math.MinInt64)}, open(15, 15, math.MinInt64, 0))
	makes(t, []api.Event{call(0, 0, 0), answer(0, 0)}, done(0, 0, 0, 0, 0, 1))
	makes(t, []api.Event{call(4, 9, math.MaxInt64), answer(4, math.MinInt64)}, done(4, 9, math.MaxInt64, math.MinInt64, 0, 1))
	makes(t, []api.Event{call(4, 9, -1), answer(4, -1), call(4, 3, -2)}, done(4, 9, -1, -1, 0, 1), open(4, 3, -2, 2))
	makes(t, []api.Event{call(4, 9, 1), answer(4, 2), call(4, 3, 3), answer(4, 4)}, done(4, 9, 1, 2, 0, 1), done(4, 3, 3, 4, 2, 3))
}

// P14.3: answers come in any order; operations stand in that of their calls.
func TestOpsOrder(t *testing.T) {
	calls := []api.Event{call(7, 1, 10), call(2, 2, 20), call(11, 3, 30)}
	makes(t, joined(calls, []api.Event{answer(11, 1), answer(2, 2), answer(7, 3)}),
		done(7, 1, 10, 3, 0, 5), done(2, 2, 20, 2, 1, 4), done(11, 3, 30, 1, 2, 3))
	makes(t, joined(calls, []api.Event{answer(2, 1), call(2, 4, 40), answer(7, 2), answer(2, 3)}),
		done(7, 1, 10, 2, 0, 5), done(2, 2, 20, 1, 1, 3), open(11, 3, 30, 2), done(2, 4, 40, 3, 4, 6))
	makes(t, joined(calls, []api.Event{answer(11, 1)}),
		open(7, 1, 10, 0), open(2, 2, 20, 1), done(11, 3, 30, 1, 2, 3))
	var want []api.Op
	for k := range manyClients {
		want = append(want, done(k, k, int64(100*k), int64(-k), k, 31-k))
	}
	l := waiting(16)
	for k := range manyClients {
		l = append(l, answer(15-k, int64(k-15)))
	}
	makes(t, l, want...)
}

// P14.3: what is no history has no operations; the error is Check's.
func TestOpsOfNone(t *testing.T) {
	for _, c := range []struct {
		l     []api.Event
		asked api.Errno
	}{
		{[]api.Event{call(0, 1, 2), answer(0, 3), call(-1, 0, 0)}, api.ErrArg},
		{[]api.Event{call(0, 1, 2), answer(0, 3), call(0, 16, 0)}, api.ErrArg},
		{byTurns(65), api.ErrBig},
		{[]api.Event{call(0, 1, 2), answer(0, 3), answer(0, 3)}, api.ErrState},
		{[]api.Event{call(0, 1, 2), call(0, 1, 2)}, api.ErrState},
	} {
		if ops, e := hist.Ops(c.l); e != c.asked || len(ops) != 0 {
			t.Errorf("Ops of %v: %v, error %d, not %d", c.l, ops, e, c.asked)
		}
	}
}

// P14.3: what is before is done, and answered ahead of the other one's call.
func TestBefore(t *testing.T) {
	ints := []int{math.MinInt, math.MinInt + 1, -2, -1, 0, 1, 2, 3, 127, math.MaxInt - 1, math.MaxInt}
	for _, to := range ints {
		for _, from := range ints {
			// The other fields say nothing: they are like these, and unlike these.
			for _, a := range []api.Op{{To: to}, {Client: 1, Op: 2, Arg: 3, Ret: 4, From: 5, To: to}, {From: from, To: to}, {From: math.MaxInt, To: to}} {
				for _, b := range []api.Op{{From: from}, {From: from, To: -1}, {Done: true, From: from, To: to}, {Client: 1, Op: 2, Arg: 3, Done: true, Ret: 4, From: from, To: math.MinInt}} {
					a.Done = false
					if hist.Before(a, b) {
						t.Errorf("%v is not done, and is before %v", a, b)
					}
					a.Done = true
					if hist.Before(a, b) != (to < from) {
						t.Errorf("%v, %v: before: %v", a, b, to >= from)
					}
				}
			}
		}
	}
}

// P14.3: an operation and itself.
func TestBeforeItself(t *testing.T) {
	for _, o := range []api.Op{{}, done(1, 2, 3, 4, 5, 6), open(1, 2, 3, 4), done(1, 2, 3, 4, 5, 5), open(0, 0, 0, 0)} {
		if hist.Before(o, o) {
			t.Errorf("%v is before itself", o)
		}
	}
	// No history has such a one.
	if o := done(1, 2, 3, 4, 5, 4); !hist.Before(o, o) {
		t.Errorf("%v is not before itself", o)
	}
}

// P14.4: each event belongs to one operation.
func belongs(t *testing.T, l []api.Event, ops []api.Op) {
	t.Helper()
	times := make([]int, len(l))
	for _, o := range ops {
		times[o.From]++
		if o.Done {
			times[o.To]++
		}
	}
	for i, n := range times {
		if n != 1 {
			t.Fatalf("%v: event %d belongs to %d operations", l, i, n)
		}
	}
}

// P14.4: operations of one client do not lie over one another.
func apart(t *testing.T, ops []api.Op) {
	t.Helper()
	for i, a := range ops {
		for _, b := range ops[i+1:] {
			if a.Client == b.Client && !hist.Before(a, b) {
				t.Fatalf("%v and %v lie over one another", a, b)
			}
		}
	}
}

// P14.4: what is before is an order.
func ordered(t *testing.T, ops []api.Op) {
	t.Helper()
	for _, a := range ops {
		if hist.Before(a, a) {
			t.Fatalf("%v is before itself", a)
		}
		for _, b := range ops {
			if !hist.Before(a, b) {
				continue
			}
			if hist.Before(b, a) {
				t.Fatalf("%v and %v are before one another", a, b)
			}
			for _, c := range ops {
				if hist.Before(b, c) && !hist.Before(a, c) {
					t.Fatalf("%v is before %v, which is before %v", a, b, c)
				}
			}
		}
	}
}

// begun holds the operations of a beginning of a history against those of the whole.
func begun(t *testing.T, l []api.Event, ops []api.Op) {
	t.Helper()
	for n := range len(l) + 1 {
		if i, e := hist.Check(l[:n]); i != 0 || e != api.OK {
			t.Fatalf("%v: the first %d: %d, error %d", l, n, i, e)
		}
		var want []api.Op
		for _, o := range ops {
			if o.From >= n {
				continue
			}
			if o.To >= n {
				o.Done, o.Ret, o.To = false, 0, -1
			}
			want = append(want, o)
		}
		if got, e := hist.Ops(l[:n]); e != api.OK || !slices.Equal(got, want) {
			t.Fatalf("%v: the first %d: %v, error %d, not %v", l, n, got, e, want)
		}
	}
}

// P14.4, of histories of all kinds and of those by chance.
func TestWhatFollows(t *testing.T) {
	r := rand.New(rand.NewSource(144))
	rows := samples()
	for range 400 {
		rows = append(rows, chance(r, r.Intn(160), 1+r.Intn(manyClients)))
	}
	for _, l := range rows {
		ops, e := hist.Ops(l)
		if e != api.OK {
			t.Fatalf("%v: error %d", l, e)
		}
		belongs(t, l, ops)
		apart(t, ops)
		ordered(t, ops)
		begun(t, l, ops)
	}
}
