package lin_test

import (
	"math"
	"math/rand"
	"slices"
	"sync"
	"testing"

	"inquest/api"
	"inquest/lin"
)

// What lists are spoilt with, and what stands behind their lengths.
var (
	otherIns = []api.Ins{{Op: 77, N: 77}, refuse, jump(0), answer}
	otherOps = []api.Op{{}, {Op: 1, Arg: 77, Done: true, Ret: 78, From: 500, To: -500}, {Done: true, To: 500, Ret: 99}}
)

// roomy answers a list with room behind its length, and all of its memory.
func roomy[T any](l []T, filler T) (part, whole []T) {
	whole = append(slices.Clone(l), filler, filler, filler, filler)
	return whole[:len(l)], whole
}

// fill writes something into all of a list.
func fill[T any](l []T, filler T) {
	for i := range l {
		l[i] = filler
	}
}

// asks answers asks of all kinds, some of which New refuses.
func asks() []ask {
	r := rand.New(rand.NewSource(195))
	l := append(searches(r, 120), ask{}, ask{echo, 9, 99, nil}, ask{echo, -1, 99, line(5)}, ask{echo, 9, -1, line(5)}, ask{echo, 9, 99, line(65)}, ask{echo, 9, 99, []api.Op{done(0, 0, 0, 1, 0)}})
	for range 60 {
		l = append(l, wild(r))
	}
	return l
}

// R3: nothing of what is handed in is changed by New or a method, not behind its length either; what stands there is not looked at.
func TestUnchanged(t *testing.T) {
	for _, a := range asks() {
		want, asked := said(a)
		for k := range 4 {
			l, wholeL := roomy(a.l, otherIns[k])
			ops, wholeOps := roomy(a.ops, otherOps[k%3])
			wasL, wasOps := slices.Clone(wholeL), slices.Clone(wholeOps)
			x, e := lin.New(l, a.fuel, a.budget, ops)
			if e != asked {
				t.Fatalf("%+v: error %d, not %d", a, e, asked)
			}
			for e == api.OK && !x.Over() {
				goes(t, a, x, 1+k*5, want)
			}
			if !slices.Equal(wholeL, wasL) || !slices.Equal(wholeOps, wasOps) {
				t.Errorf("%v, %v came to be %v, %v", wasL, wasOps, wholeL, wholeOps)
			}
		}
	}
}

// R3: nothing of what is handed in is kept: what is written into it behind New, and between the tries, changes nothing.
func TestNotKept(t *testing.T) {
	for _, a := range asks() {
		end, e := said(a)
		if e != api.OK {
			continue
		}
		for k := range 4 {
			given := a.copied()
			x, _ := given.task()
			fill(given.l, otherIns[k])
			fill(given.ops, otherOps[k%3])
			stands(t, a, x, 0, end)
			goes(t, a, x, end.Tries/2, end)
			fill(given.l, otherIns[3-k])
			fill(given.ops, otherOps[(k+1)%3])
			goes(t, a, x, math.MaxInt, end)
		}
	}
}

// R3: what Verdict told may be written into, and appended to: what it tells afterwards, and told elsewhere, is as it was.
func TestToldIsNew(t *testing.T) {
	for _, a := range asks() {
		end, e := said(a)
		if e != api.OK {
			continue
		}
		x, _ := a.task()
		x.Go(math.MaxInt)
		first, _ := x.Verdict()
		second, _ := x.Verdict()
		fill(first.Order[:cap(first.Order)], -7)
		first.Kind, first.Tries = 77, -1
		if !same(second, end) {
			t.Fatalf("%+v: %+v, not %+v", a, second, end)
		}
		stands(t, a, x, end.Tries, end)
		_ = append(second.Order, 5, 6, 7)
		fill(second.Order, 99)
		stands(t, a, x, end.Tries, end)
		goes(t, a, x, 5, end)
	}
}

// R4: two searches know nothing of one another: tries by turns, of the same ask and of others.
func TestTwoTasks(t *testing.T) {
	all := searches(rand.New(rand.NewSource(196)), 100)
	for i, a := range all {
		for _, b := range []ask{a, all[(i+1)%len(all)], all[(i+7)%len(all)], a.within(a.budget / 2)} {
			endA, _ := said(a)
			endB, _ := said(b)
			x, _ := a.task()
			y, _ := b.task()
			for k := 0; !x.Over() || !y.Over(); k++ {
				goes(t, a, x, k%3, endA)
				goes(t, b, y, k%2, endB)
			}
			stands(t, a, x, endA.Tries, endA)
			stands(t, b, y, endB.Tries, endB)
		}
	}
}

// R4: many tasks, each gone on with by chance.
func TestManyTasks(t *testing.T) {
	r := rand.New(rand.NewSource(197))
	all := searches(r, 100)
	tasks := make([]*lin.Task, len(all))
	ends := make([]api.Verdict, len(all))
	for k, a := range all {
		ends[k], _ = said(a)
		tasks[k], _ = a.task()
	}
	for range 20000 {
		k := r.Intn(len(all))
		goes(t, all[k], tasks[k], r.Intn(4), ends[k])
	}
	for k, x := range tasks {
		goes(t, all[k], x, math.MaxInt, ends[k])
	}
}

// R4: the search of many tasks at the same time, each of its own goroutine, from the same lists.
func TestAtTheSameTime(t *testing.T) {
	all := searches(rand.New(rand.NewSource(198)), 80)
	wrong := make([]*ask, 8)
	var wait sync.WaitGroup
	for k := range wrong {
		wait.Go(func() {
			for i := range all {
				a := all[(i+7*k)%len(all)]
				end, _ := said(a)
				x, e := a.task()
				for e == api.OK && !x.Go(1+k) {
				}
				if v, ok := x.Verdict(); !ok || !same(v, end) {
					wrong[k] = &a
				}
			}
		})
	}
	wait.Wait()
	for _, a := range wrong {
		if a != nil {
			t.Errorf("%+v", *a)
		}
	}
}

// R4: the same call answers the same, whatever was asked between, also where nothing was done by it.
func TestSameAnswers(t *testing.T) {
	r := rand.New(rand.NewSource(199))
	all := asks()
	for range 3000 {
		k, other := r.Intn(len(all)), r.Intn(len(all))
		judged(t, all[k])
		judged(t, all[other])
		judged(t, all[k])
	}
	x, _ := ask{echo, 9, 99, line(5)}.task()
	for n := range 6 {
		for range 3 {
			if x.Tries() != n || x.Over() != (n == 5) {
				t.Fatalf("behind %d: %d tries, over %v", n, x.Tries(), x.Over())
			}
			if v, ok := x.Verdict(); ok != (n == 5) || v.Tries != n/5*5 {
				t.Fatalf("behind %d: %+v, %v", n, v, ok)
			}
		}
		x.Go(1)
	}
}
