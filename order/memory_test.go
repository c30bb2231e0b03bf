package order_test

import (
	"math/rand"
	"slices"
	"testing"

	"inquest/api"
)

// What lists are spoilt with, and what stands behind their lengths.
var (
	otherIns = []api.Ins{{Op: 77, N: 77}, refuse, jump(0), answer}
	otherOps = []api.Op{{}, {Op: 1, Arg: 77, Done: true, Ret: 78, From: 500, To: -500}, {Done: true, To: -1}}
	others   = []int{0, -1, 1, 77}
)

// roomy answers a list with room behind its length, and all of its memory.
func roomy[T any](l []T, filler T) (part, whole []T) {
	whole = append(slices.Clone(l), filler, filler, filler, filler)
	return whole[:len(l)], whole
}

// asks answers asks of all kinds.
func asks() []ask {
	r := rand.New(rand.NewSource(177))
	l := []ask{
		{},
		{echo, 9, nil, nil},
		{echo, 9, line(64), rising(64)},
		{echo, 9, line(65), rising(65)},
		{echo, 9, line(64), falling(64)},
		{echo, 1, line(5), rising(5)},
		{echo, -1, line(5), rising(5)},
		{echo, 9, line(5), rising(4)},
		{echo, 9, line(5), []int{0, 1, 2, 3, 4, 4}},
		{tally, 9, line(5), rising(5)},
		{cell, 6, []api.Op{done(1, 5, 0, 0, 2), done(0, 0, 5, 1, 3)}, []int{0, 1}},
		{cell, 6, []api.Op{done(1, 5, 0, 0, 2), done(0, 0, 5, 1, 3)}, []int{1, 0}},
	}
	for k := range 60 {
		a := lawful(r, k)
		l = append(l, a, wild(r))
		b := a.copied()
		spoil(r, &b)
		l = append(l, b)
	}
	return l
}

// R3: nothing of what is handed in is changed, not behind its length either; what stands there is not looked at.
func TestUnchanged(t *testing.T) {
	for _, a := range asks() {
		want := said(a)
		for k := range 4 {
			l, wholeL := roomy(a.l, otherIns[k])
			ops, wholeOps := roomy(a.ops, otherOps[k%3])
			order, wholeOrder := roomy(a.order, others[k])
			wasL, wasOps, wasOrder := slices.Clone(wholeL), slices.Clone(wholeOps), slices.Clone(wholeOrder)
			tells(t, want, ask{l, a.fuel, ops, order})
			if !slices.Equal(wholeL, wasL) || !slices.Equal(wholeOps, wasOps) || !slices.Equal(wholeOrder, wasOrder) {
				t.Errorf("%v, %v, %v came to be %v, %v, %v", wasL, wasOps, wasOrder, wholeL, wholeOps, wholeOrder)
			}
		}
	}
}

// R3: nothing is kept: what was handed in may be changed, and the next call goes by what it is handed.
func TestNotKept(t *testing.T) {
	for _, a := range asks() {
		want := said(a)
		given := a.copied()
		tells(t, want, given)
		for i := range given.l {
			given.l[i] = otherIns[0]
		}
		for i := range given.ops {
			given.ops[i] = otherOps[1]
		}
		for i := range given.order {
			given.order[i] = -1
		}
		tells(t, said(given), given)
		tells(t, want, a.copied())
		tells(t, said(given), given)
	}
}

// R3, R4: one list that is changed from call to call.
func TestChangedBetween(t *testing.T) {
	a := ask{slices.Clone(echo), 9, crowd(5), rising(5)}
	for k := range 5 {
		tells(t, api.OK, a)
		a.ops[k].Ret++
		tells(t, api.ErrRet, a)
		a.ops[k].Ret--
		a.order[k] = 9
		tells(t, api.ErrArg, a)
		a.order[k] = k
		a.ops[k].To = -1
		tells(t, map[bool]api.Errno{true: api.ErrOrder}[k > 0], a)
		a.ops[k].To = 5 + k
		a.l[1] = refuse
		tells(t, api.ErrStep, a)
		a.l[1] = pop
		tells(t, api.ErrRest, a)
		a.l[1] = answer
	}
}

// R4: the same call answers the same, whatever was asked between.
func TestSameAnswers(t *testing.T) {
	all := asks()
	r := rand.New(rand.NewSource(178))
	var want []api.Errno
	for _, a := range all {
		want = append(want, said(a))
	}
	met := map[api.Errno]int{}
	for range 20000 {
		k := r.Intn(len(all))
		if e, again := all[k].told(), all[k].told(); e != want[k] || again != want[k] {
			t.Fatalf("%+v: error %d, then %d, not %d", all[k], e, again, want[k])
		}
		met[want[k]]++
	}
	enough(t, met, 100, api.OK, api.ErrArg, api.ErrBig, api.ErrNone, api.ErrOrder, api.ErrStep, api.ErrRet)
}

// R3: nil and empty lists are alike.
func TestNilAndEmpty(t *testing.T) {
	for _, ops := range [][]api.Op{nil, {}} {
		for _, order := range [][]int{nil, {}} {
			tells(t, api.OK, ask{echo, 0, ops, order})
			tells(t, api.ErrBig, ask{nil, 0, ops, order})
			tells(t, api.ErrBig, ask{[]api.Ins{}, 0, ops, order})
		}
	}
	for _, order := range [][]int{nil, {}} {
		tells(t, api.OK, ask{echo, 0, opened(line(2)), order})
		tells(t, api.ErrNone, ask{echo, 0, line(2), order})
	}
}

// R4: what many ask at the same time is answered as if one asked it.
func TestAtTheSameTime(t *testing.T) {
	all := asks()
	bad := make(chan ask, 8)
	for k := range 8 {
		go func() {
			var wrong ask
			for i := range all {
				if a := all[(i+k*7)%len(all)]; a.told() != said(a) {
					wrong = a
				}
			}
			bad <- wrong
		}()
	}
	for range 8 {
		if a := <-bad; a.l != nil {
			t.Errorf("%+v", a)
		}
	}
}
