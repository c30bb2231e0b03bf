package lin_test

import (
	"math"
	"math/rand"
	"slices"
	"strconv"
	"testing"

	"inquest/api"
	"inquest/lin"
	"inquest/vm"
)

// What the chapter says of the search, written anew, for the tests to hold the package against.

const (
	mostOps   = 64
	mostFuel  = 10000
	mostTries = 1 << 30
	least     = math.MinInt64
	greatest  = math.MaxInt64
)

// ask is what New is handed.
type ask struct {
	l            []api.Ins
	fuel, budget int
	ops          []api.Op
}

// task answers what New answers.
func (a ask) task() (*lin.Task, api.Errno) { return lin.New(a.l, a.fuel, a.budget, a.ops) }

// copied answers the same ask in other memory.
func (a ask) copied() ask { return ask{slices.Clone(a.l), a.fuel, a.budget, slices.Clone(a.ops)} }

// within answers an ask with another budget.
func (a ask) within(budget int) ask {
	a.budget = budget
	return a
}

// with answers an ask with other fuel.
func (a ask) with(fuel int) ask {
	a.fuel = fuel
	return a
}

// seeker is a search by the chapter's words, which goes in one piece, by calls within calls.
type seeker struct {
	ask
	m     *vm.Machine
	met   map[string]bool
	row   []int // what was put into the set, in that order
	tries int
}

// said answers what New and the whole search have to say, by the chapter's words.
func said(a ask) (api.Verdict, api.Errno) {
	m, e := vm.New(a.l)
	if e != api.OK {
		return api.Verdict{}, e
	}
	if a.fuel < 0 || a.fuel > mostFuel || a.budget < 0 || a.budget > mostTries {
		return api.Verdict{}, api.ErrArg
	}
	if len(a.ops) > mostOps {
		return api.Verdict{}, api.ErrBig
	}
	for _, o := range a.ops {
		if o.Done && o.To < o.From {
			return api.Verdict{}, api.ErrOrder
		}
	}
	s := &seeker{ask: a, m: m, met: map[string]bool{}}
	v := api.Verdict{Kind: s.comes(api.State{})}
	switch v.Kind {
	case 0:
		v.Kind = api.FitsNot
	case api.Fits:
		v.Order = s.row
	}
	v.Tries = s.tries
	return v, api.OK
}

// comes answers what comes of the position of the row and these cells, at which the search is for the first time; 0: nothing.
func (s *seeker) comes(cells api.State) int {
	if s.ends() {
		return api.Fits
	}
	for n, o := range s.ops {
		if !s.may(n) {
			continue
		}
		if s.tries == s.budget {
			return api.OutTry
		}
		s.tries++
		x := s.m.Step(cells, o.Op, o.Arg, s.fuel)
		if x.Kind == api.NoFuel {
			return api.OutFuel
		}
		if x.Kind != api.Answered || o.Done && x.Ret != o.Ret {
			continue
		}
		s.row = append(s.row, n)
		if name := s.name(x.State); !s.met[name] {
			s.met[name] = true
			if kind := s.comes(x.State); kind != 0 {
				return kind
			}
		}
		s.row = s.row[:len(s.row)-1]
	}
	return 0
}

// ends tells whether all that are Done stand in the row.
func (s *seeker) ends() bool {
	for n, o := range s.ops {
		if o.Done && !slices.Contains(s.row, n) {
			return false
		}
	}
	return true
}

// may tells whether a place is tried: it is not in the row, and none that is not there is before it.
func (s *seeker) may(n int) bool {
	for k, o := range s.ops {
		if !slices.Contains(s.row, k) && o.Done && o.To < s.ops[n].From {
			return false
		}
	}
	return !slices.Contains(s.row, n)
}

// name answers a text that says the set of the row, and the cells.
func (s *seeker) name(cells api.State) string {
	var b []byte
	for _, n := range slices.Sorted(slices.Values(s.row)) {
		b = append(strconv.AppendInt(b, int64(n), 10), ' ')
	}
	for _, c := range cells {
		b = append(strconv.AppendInt(append(b, ','), c, 10), ' ')
	}
	return string(b)
}

// same tells whether two verdicts are.
func same(v, w api.Verdict) bool {
	return v.Kind == w.Kind && v.Tries == w.Tries && slices.Equal(v.Order, w.Order)
}

// stands asks for what a task tells where so many tries were done, and this will come of it.
func stands(t *testing.T, a ask, x *lin.Task, tries int, end api.Verdict) {
	t.Helper()
	over := tries == end.Tries
	if x.Tries() != tries || x.Over() != over {
		t.Fatalf("%+v: %d tries, over %v, not %d, %v", a, x.Tries(), x.Over(), tries, over)
	}
	if !over {
		end = api.Verdict{}
	}
	if v, ok := x.Verdict(); ok != over || !same(v, end) {
		t.Fatalf("%+v: behind %d tries: %+v, %v, not %+v, %v", a, tries, v, ok, end, over)
	}
}

// goes lets a task go on by n, and asks for what it tells then.
func goes(t *testing.T, a ask, x *lin.Task, n int, end api.Verdict) {
	t.Helper()
	tries := x.Tries()
	over := x.Go(n)
	tries += min(max(n, 0), end.Tries-tries)
	if over != (tries == end.Tries) {
		t.Fatalf("%+v: Go(%d): %v behind %d tries of %d", a, n, over, tries, end.Tries)
	}
	stands(t, a, x, tries, end)
}

// judged holds New and the whole search, in one piece, against the chapter's words; it answers what they say.
func judged(t *testing.T, a ask) (api.Verdict, api.Errno) {
	t.Helper()
	want, e := said(a)
	x, got := a.task()
	if got != e || (x != nil) != (e == api.OK) {
		t.Fatalf("%+v: error %d, not %d, task %v", a, got, e, x)
	}
	if e != api.OK {
		return want, e
	}
	stands(t, a, x, 0, want)
	goes(t, a, x, math.MaxInt, want)
	goes(t, a, x, math.MaxInt, want)
	return want, e
}

// refuses asks for an error of New.
func refuses(t *testing.T, want api.Errno, a ask) {
	t.Helper()
	if _, e := judged(t, a); e != want {
		t.Errorf("%+v: error %d, not %d", a, e, want)
	}
}

// tells asks for a verdict: its kind, its tries and its order.
func tells(t *testing.T, a ask, kind, tries int, order ...int) {
	t.Helper()
	x, e := a.task()
	if e != api.OK {
		t.Fatalf("%+v: error %d", a, e)
	}
	x.Go(math.MaxInt)
	want := api.Verdict{Kind: kind, Order: order, Tries: tries}
	if v, ok := x.Verdict(); !ok || !same(v, want) {
		t.Errorf("%+v: %+v, %v, not %+v", a, v, ok, want)
	}
	judged(t, a)
}

// do answers an instruction without a number.
func do(op int) api.Ins { return api.Ins{Op: op} }

// push, load, store, jump and unless answer instructions with one.
func push(n int64) api.Ins   { return api.Ins{Op: api.IPush, N: n} }
func load(n int64) api.Ins   { return api.Ins{Op: api.ILoad, N: n} }
func store(n int64) api.Ins  { return api.Ins{Op: api.IStore, N: n} }
func jump(n int64) api.Ins   { return api.Ins{Op: api.IJump, N: n} }
func unless(n int64) api.Ins { return api.Ins{Op: api.IUnless, N: n} }

// Instructions that the tests use often.
var (
	pop    = do(api.IPop)
	dup    = do(api.IDup)
	arg    = do(api.IArg)
	kind   = do(api.IKind)
	add    = do(api.IAdd)
	sub    = do(api.ISub)
	div    = do(api.IDiv)
	answer = do(api.IAnswer)
	refuse = do(api.IRefuse)
)

// Code that the tests use often.
var (
	// cell is one cell: kind 0 answers it, another one sets it to arg and answers 0.
	cell = []api.Ins{kind, unless(6), arg, store(0), push(0), answer, load(0), answer}
	// echo answers arg, and keeps nothing.
	echo = []api.Ins{arg, answer}
	// which answers kind.
	which = []api.Ins{kind, answer}
	// tally adds arg to cell 2 and answers the sum.
	tally = []api.Ins{load(2), arg, add, dup, store(2), answer}
	// hidden adds arg to cell 1 and answers 0.
	hidden = []api.Ins{load(1), arg, add, store(1), push(0), answer}
	// shift answers the arg of four operations ahead.
	shift = []api.Ins{load(3), load(2), store(3), load(1), store(2), load(0), store(1), arg, store(0), answer}
	// picky answers arg of kind 0 and refuses others.
	picky = []api.Ins{kind, unless(3), refuse, arg, answer}
	// stuck answers arg of kind 0 and never ends of others.
	stuck = []api.Ins{kind, unless(3), jump(2), arg, answer}
	// burn answers 0 behind 4 instructions and 5 times arg more.
	burn = []api.Ins{arg, dup, unless(6), push(1), sub, jump(1), answer}
	// share answers 100 by arg, and counts in cell 1.
	share = []api.Ins{load(1), push(1), add, store(1), push(100), arg, div, answer}
	// lock is a lock: kind 0 gives it back, another one takes it; each answers 0, and refuses where that can't be.
	lock = []api.Ins{kind, unless(7), load(3), unless(5), refuse, push(1), jump(11), load(3), unless(4), push(0), jump(11), store(3), push(0), answer}
)

// trade answers code that answers a cell and puts arg there.
func trade(n int64) []api.Ins { return []api.Ins{load(n), arg, store(n), answer} }

// keep answers code that puts arg into a cell and answers 0.
func keep(n int64) []api.Ins { return []api.Ins{arg, store(n), push(0), answer} }

// codes answers code of all kinds.
func codes() [][]api.Ins {
	return [][]api.Ins{cell, echo, which, tally, hidden, shift, picky, stuck, burn, share, lock, trade(0), trade(1), trade(2), trade(3), keep(0), keep(1), keep(2), keep(3)}
}

// noCode answers rows of instructions that are no code, by vm.New's error.
func noCode() map[api.Errno][][]api.Ins {
	nine := slices.Clip(slices.Repeat([]api.Ins{arg}, 9))
	return map[api.Errno][][]api.Ins{
		api.ErrBig:   {nil, {}, slices.Repeat([]api.Ins{refuse}, 201)},
		api.ErrCode:  {{do(20)}, {do(-1)}, {load(4), answer}, {jump(1)}, {{Op: api.IRefuse, N: 1}}, {push(1), answer, do(math.MaxInt)}},
		api.ErrShort: {{pop}, {answer}, {push(1), add, answer}},
		api.ErrFull:  {append(nine, answer), append(nine, refuse)},
		api.ErrRest:  {{push(1)}, {push(0), unless(0)}},
		api.ErrFlow:  {{push(1), jump(0)}, {push(0), unless(3), push(1), refuse}},
	}
}

// codeErrors are all errors that vm.New has.
var codeErrors = []api.Errno{api.ErrBig, api.ErrCode, api.ErrShort, api.ErrFull, api.ErrRest, api.ErrFlow}

// done answers an operation that is done, open one that is not.
func done(kind int, arg, ret int64, from, to int) api.Op {
	return api.Op{Op: kind, Arg: arg, Done: true, Ret: ret, From: from, To: to}
}

func open(kind int, arg int64, from int) api.Op {
	return api.Op{Op: kind, Arg: arg, From: from, To: -1}
}

// line answers n operations of echo of which each one is before the next one; no two are alike.
func line(n int) []api.Op {
	var l []api.Op
	for k := range n {
		l = append(l, done(0, int64(k+1), int64(k+1), 2*k, 2*k+1))
	}
	return l
}

// crowd answers n operations of echo of which none is before another one.
func crowd(n int) []api.Op {
	var l []api.Op
	for k := range n {
		l = append(l, done(0, int64(k+1), int64(k+1), k, n+k))
	}
	return l
}

// opened answers operations of which none is done.
func opened(l []api.Op) []api.Op {
	l = slices.Clone(l)
	for i := range l {
		l[i].Done = false
	}
	return l
}

// turned answers operations the other way round.
func turned(l []api.Op) []api.Op {
	l = slices.Clone(l)
	slices.Reverse(l)
	return l
}

// told answers operations that were all told the same.
func told(l []api.Op, ret int64) []api.Op {
	l = slices.Clone(l)
	for i := range l {
		l[i].Ret = ret
	}
	return l
}

// rising answers the numbers from 0 on, n of them; falling the other way round.
func rising(n int) []int {
	l := make([]int, n)
	for i := range l {
		l[i] = i
	}
	return l
}

func falling(n int) []int {
	l := rising(n)
	slices.Reverse(l)
	return l
}

// rows goes through all rows of n of the numbers from low on and below high.
func rows(n, low, high int, f func(l []int)) {
	l := make([]int, n)
	var fill func(at int)
	fill = func(at int) {
		if at == n {
			f(l)
			return
		}
		for x := low; x < high; x++ {
			l[at] = x
			fill(at + 1)
		}
	}
	fill(0)
}

// edges answers numbers at which something may change.
func edges() []int64 {
	return []int64{0, 1, -1, 2, 15, 16, -2, 1 << 31, 1 << 32, -1 << 32, greatest - 1, greatest, least, least + 1}
}

// small answers a number that is often at an edge.
func small(r *rand.Rand) int64 {
	if l := edges(); r.Intn(2) == 0 {
		return l[r.Intn(len(l))]
	}
	return int64(r.Intn(7) - 2)
}

// often asks that each of these was met so many times.
func often[K comparable](t *testing.T, met map[K]int, times int, all ...K) {
	t.Helper()
	for _, k := range all {
		if met[k] < times {
			t.Errorf("%v: only %d times", k, met[k])
		}
	}
}

// The code above is what it is said to be.
func TestRows(t *testing.T) {
	for e, lists := range noCode() {
		for _, l := range lists {
			if _, got := vm.New(l); got != e {
				t.Errorf("New of %v: %d, not %d", l, got, e)
			}
		}
	}
	for _, l := range codes() {
		if _, e := vm.New(l); e != api.OK {
			t.Errorf("New of %v: %d", l, e)
		}
	}
}
