package code_test

import (
	"encoding/binary"
	"math"
	"math/rand"
	"slices"
	"testing"

	"inquest/api"
	"inquest/code"
)

// What the chapter says of code, written anew, for the tests to hold the package against.

const (
	manyCells = 4
	manyPlace = 200
	deepest   = 8
)

// row is a row of the chapter's table.
type row struct {
	op          int
	n           string
	takes, puts int
	then        string
}

// table is the chapter's table: a row for each Op, by its number.
var table = []row{
	{api.IPush, "any", 0, 1, ""},
	{api.IPop, "", 1, 0, ""},
	{api.IDup, "", 1, 2, ""},
	{api.ISwap, "", 2, 2, ""},
	{api.ILoad, "cell", 0, 1, ""},
	{api.IStore, "cell", 1, 0, ""},
	{api.IArg, "", 0, 1, ""},
	{api.IKind, "", 0, 1, ""},
	{api.IAdd, "", 2, 1, ""},
	{api.ISub, "", 2, 1, ""},
	{api.IMul, "", 2, 1, ""},
	{api.IDiv, "", 2, 1, ""},
	{api.IRem, "", 2, 1, ""},
	{api.ILess, "", 2, 1, ""},
	{api.ISame, "", 2, 1, ""},
	{api.INot, "", 1, 1, ""},
	{api.IJump, "place", 0, 0, "N"},
	{api.IUnless, "place", 1, 0, "either"},
	{api.IAnswer, "", 1, 0, "ends"},
	{api.IRefuse, "", 0, 0, "ends"},
}

// able tells whether an instruction can be in code of n instructions.
func able(v api.Ins, n int) bool {
	if v.Op < 0 || v.Op >= len(table) {
		return false
	}
	switch table[v.Op].n {
	case "any":
		return true
	case "cell":
		return v.N >= 0 && v.N <= manyCells-1
	case "place":
		return v.N >= 0 && v.N <= int64(n)-1
	}
	return v.N == 0
}

// onward answers the places at which an instruction goes on, in the chapter's order.
func onward(v api.Ins, at int) []int {
	switch table[v.Op].then {
	case "N":
		return []int{int(v.N)}
	case "either":
		return []int{at + 1, int(v.N)}
	case "ends":
		return nil
	}
	return []int{at + 1}
}

// checked answers what Depths and Check have to answer.
func checked(l []api.Ins) ([]int, int, api.Errno) {
	if len(l) == 0 || len(l) > manyPlace {
		return nil, 0, api.ErrBig
	}
	if at := slices.IndexFunc(l, func(v api.Ins) bool { return !able(v, len(l)) }); at >= 0 {
		return nil, at, api.ErrCode
	}
	depths := slices.Repeat([]int{-1}, len(l))
	depths[0] = 0
	waits := []int{0} // in order
	for len(waits) > 0 {
		at := waits[0]
		waits = waits[1:]
		r := table[l[at].Op]
		behind := depths[at] - r.takes + r.puts
		if depths[at] < r.takes {
			return nil, at, api.ErrShort
		}
		if behind > deepest && r.then != "ends" {
			return nil, at, api.ErrFull
		}
		for _, to := range onward(l[at], at) {
			if to >= len(l) {
				return nil, at, api.ErrRest
			}
			if depths[to] == -1 {
				depths[to] = behind
				k, _ := slices.BinarySearch(waits, to)
				waits = slices.Insert(waits, k, to)
			}
			if depths[to] != behind {
				return nil, at, api.ErrFlow
			}
		}
	}
	return depths, 0, api.OK
}

// hasText tells whether N stands in an instruction's text.
func hasText(op int) bool { return slices.Contains([]int{0, 4, 5, 16, 17}, op) }

// written answers the text of instructions, be they code or not.
func written(l ...api.Ins) string {
	b := binary.AppendUvarint(nil, uint64(len(l)))
	for _, v := range l {
		b = append(b, byte(v.Op))
		if hasText(v.Op) {
			b = binary.AppendVarint(b, v.N)
		}
	}
	return string(b)
}

// short answers the number with which a text begins, and how many bytes it has, as chapter 1 says it.
func short(s string) (uint64, int, api.Errno) {
	u, n := binary.Uvarint([]byte(s))
	nine := len(s) > 9
	for k := range min(9, len(s)) {
		nine = nine && s[k] >= 128
	}
	switch {
	case nine && s[9] > 1:
		return 0, 0, api.ErrForm
	case n == 0:
		return 0, 0, api.ErrShort
	case n > 1 && s[n-1] == 0:
		return 0, 0, api.ErrForm
	}
	return u, n, api.OK
}

// read answers what Decode has to answer.
func read(s string) ([]api.Ins, api.Errno) {
	many, n, e := short(s)
	if e != api.OK {
		return nil, e
	}
	if many > manyPlace {
		return nil, api.ErrBig
	}
	var l []api.Ins
	for s = s[n:]; uint64(len(l)) < many; s = s[n:] {
		if s == "" {
			return nil, api.ErrShort
		}
		v := api.Ins{Op: int(s[0])}
		if v.Op >= len(table) {
			return nil, api.ErrCode
		}
		n = 1
		if hasText(v.Op) {
			u, more, e := short(s[1:])
			if e != api.OK {
				return nil, e
			}
			v.N = int64(u>>1) ^ -int64(u&1)
			n += more
		}
		l = append(l, v)
	}
	if s != "" {
		return nil, api.ErrRest
	}
	if _, _, e := checked(l); e != api.OK {
		return nil, e
	}
	return l, api.OK
}

// judged holds Check, Depths, Encode and Decode of what Encode makes against the chapter's words, and answers Check's error.
func judged(t *testing.T, l []api.Ins) api.Errno {
	t.Helper()
	want, place, asked := checked(l)
	if at, e := code.Check(l); at != place || e != asked {
		t.Fatalf("Check of %v: %d, error %d, not %d, error %d", l, at, e, place, asked)
	}
	if depths := code.Depths(l); !slices.Equal(depths, want) {
		t.Fatalf("Depths of %v: %v, not %v", l, depths, want)
	}
	b, e := code.Encode(l)
	if e != asked || e != api.OK && len(b) != 0 || e == api.OK && string(b) != written(l...) {
		t.Fatalf("Encode of %v: %x, error %d, not %d", l, b, e, asked)
	}
	if asked != api.OK {
		return asked
	}
	if again, e := code.Decode(b); e != api.OK || !slices.Equal(again, l) {
		t.Fatalf("Decode of %x: %v, error %d", b, again, e)
	}
	return api.OK
}

// reads holds Decode of a text against the chapter's words, and answers its error.
func reads(t *testing.T, s string) api.Errno {
	t.Helper()
	want, asked := read(s)
	l, e := code.Decode([]byte(s))
	if e != asked || !slices.Equal(l, want) {
		t.Fatalf("Decode of %x: %v, error %d, not %v, error %d", s, l, e, want, asked)
	}
	if e != api.OK {
		return e
	}
	if b, e := code.Encode(l); e != api.OK || string(b) != s {
		t.Fatalf("%x, read and written again: %x, error %d", s, b, e)
	}
	return api.OK
}

// checks asks for Check's answer, and for those of the others with it.
func checks(t *testing.T, place int, asked api.Errno, l ...api.Ins) {
	t.Helper()
	if at, e := code.Check(l); at != place || e != asked {
		t.Errorf("Check of %v: %d, error %d, not %d, error %d", l, at, e, place, asked)
	}
	judged(t, l)
}

// isDeep asks for the depths of code.
func isDeep(t *testing.T, want []int, l ...api.Ins) {
	t.Helper()
	if depths := code.Depths(l); !slices.Equal(depths, want) {
		t.Errorf("Depths of %v: %v, not %v", l, depths, want)
	}
	checks(t, 0, api.OK, l...)
}

// decodes asks for an error of Decode.
func decodes(t *testing.T, s string, asked api.Errno) {
	t.Helper()
	if l, e := code.Decode([]byte(s)); e != asked || e != api.OK && len(l) != 0 {
		t.Errorf("Decode of %x: %v, error %d, not %d", s, l, e, asked)
	}
	reads(t, s)
}

// do answers an instruction without a number.
func do(op int) api.Ins { return api.Ins{Op: op} }

// push, load, store, jump and unless answer instructions with one.
func push(n int64) api.Ins   { return api.Ins{Op: api.IPush, N: n} }
func load(n int64) api.Ins   { return api.Ins{Op: api.ILoad, N: n} }
func store(n int64) api.Ins  { return api.Ins{Op: api.IStore, N: n} }
func jump(n int64) api.Ins   { return api.Ins{Op: api.IJump, N: n} }
func unless(n int64) api.Ins { return api.Ins{Op: api.IUnless, N: n} }

// Instructions that the tests use often.
var (
	pop    = do(api.IPop)
	dup    = do(api.IDup)
	add    = do(api.IAdd)
	not    = do(api.INot)
	answer = do(api.IAnswer)
	refuse = do(api.IRefuse)
)

// list answers instructions, or rows of them, one behind the other.
func list(rows ...any) []api.Ins {
	var l []api.Ins
	for _, r := range rows {
		switch r := r.(type) {
		case api.Ins:
			l = append(l, r)
		case []api.Ins:
			l = append(l, r...)
		}
	}
	return l
}

// deep answers n instructions behind which so many numbers are on the stack.
func deep(n int) []api.Ins { return slices.Repeat(list(push(1)), n) }

// refusals answers n instructions, of which the first one ends.
func refusals(n int) []api.Ins { return slices.Repeat(list(refuse), n) }

// turns answers n instructions that are all come to: one number on the stack, turned over and over.
func turns(n int) []api.Ins {
	l := slices.Repeat(list(not), n)
	l[0] = push(7)
	l[n-1] = answer
	return l
}

// rising answers n instructions that go up to the deepest stack and down again, and round.
func rising(n int) []api.Ins {
	l := make([]api.Ins, n)
	for i := range l {
		if l[i] = pop; i%(2*deepest) < deepest {
			l[i] = push(int64(i * i))
		}
	}
	l[n-1] = refuse
	return l
}

// back answers n instructions, of which each row of three leads back to the one ahead of it.
func back(n int) []api.Ins {
	l := refusals(n)
	for at := n - 3; at >= 1; at -= 3 {
		l[at], l[at+1] = push(0), unless(int64(max(1, at-3)))
	}
	l[0] = jump(int64(n - 3))
	return l
}

// widths answers numbers whose short numbers have 1 to 10 bytes, the least and the greatest of each length.
func widths() []int64 {
	l := []int64{0, 1, -1, 5, math.MaxInt64, math.MaxInt64 - 1, math.MinInt64, math.MinInt64 + 1}
	for bits := 6; bits < 63; bits += 7 {
		p := int64(1) << bits
		l = append(l, p-1, p, p+1, -p+1, -p, -p-1)
	}
	return l
}

// value answers a number of any length.
func value(r *rand.Rand) int64 { return int64(r.Uint64()) >> r.Intn(64) }

// chance answers code of n instructions by chance, and of each place the depth that it has, if something leads to it. Half of it goes up to a deep stack first.
func chance(r *rand.Rand, n int) ([]api.Ins, []int) {
	l, plan := make([]api.Ins, n), make([]int, n+1)
	lift := r.Intn(2) * r.Intn(deepest+1)
	for at := range l {
		w := table[r.Intn(len(table))]
		for w.takes > plan[at] || plan[at]-w.takes+w.puts > deepest {
			w = table[r.Intn(len(table))]
		}
		if at < lift {
			w = table[api.IPush]
		}
		l[at].Op = w.op
		if plan[at+1] = plan[at] - w.takes + w.puts; w.then == "N" || w.then == "ends" {
			plan[at+1] = r.Intn(4)
		}
	}
	for at := range l {
		l[at] = numbered(r, l[at].Op, at, plan[:n])
	}
	if slices.Contains(onward(l[n-1], n-1), n) {
		l[n-1] = refuse
	}
	return l, plan[:n]
}

// numbered answers an instruction whose N fits in with the depths of all places.
func numbered(r *rand.Rand, op, at int, plan []int) api.Ins {
	switch table[op].n {
	case "any":
		return api.Ins{Op: op, N: value(r)}
	case "cell":
		return api.Ins{Op: op, N: int64(r.Intn(manyCells))}
	case "place":
		for range 40 {
			to := r.Intn(len(plan))
			if plan[to] == plan[at]-table[op].takes {
				return api.Ins{Op: op, N: int64(to)}
			}
		}
		if op == api.IJump {
			return api.Ins{Op: op, N: int64(at)}
		}
		return pop // what takes as much off as IUnless does
	}
	return do(op)
}

// samples answers code of all kinds.
func samples() [][]api.Ins {
	r := rand.New(rand.NewSource(15))
	l := [][]api.Ins{
		{refuse},
		{jump(0)},
		{do(api.IArg), store(0), push(0), answer},
		{push(1), unless(0), refuse},
		{push(0), unless(2), refuse},
		{push(math.MinInt64), push(math.MaxInt64), do(api.ILess), unless(5), jump(0), refuse},
		{jump(4), push(-64), pop, jump(6), push(0), unless(1), push(64), answer},
		{load(3), store(3), load(0), dup, do(api.ISwap), do(api.ISub), answer},
		list(deep(8), answer),
		turns(126), turns(127), turns(128),
		rising(40), back(40), refusals(129),
	}
	for k := range 12 {
		c, _ := chance(r, 2+3*k)
		l = append(l, c)
	}
	return l
}

// longest answers code that is as long as it may be.
func longest() [][]api.Ins {
	return [][]api.Ins{turns(manyPlace), rising(manyPlace), back(manyPlace), refusals(manyPlace)}
}

// roomy answers a list with room behind its length, and all of its memory.
func roomy[T any](l []T, filler T) (part, whole []T) {
	whole = append(slices.Clone(l), filler, filler, filler, filler)
	return whole[:len(l)], whole
}

// spoil changes a list, and all of the room behind it.
func spoil[T any](l []T, filler T) {
	l = l[:cap(l)]
	for i := range l {
		l[i] = filler
	}
}
