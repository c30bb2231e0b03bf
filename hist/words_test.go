package hist_test

import (
	"encoding/binary"
	"math"
	"math/rand"
	"slices"
	"testing"

	"inquest/api"
	"inquest/hist"
)

// What the chapter says of histories, written anew, for the tests to hold the package against.

const (
	manyClients = 16
	manyKinds   = 16
	manyCalls   = 64
	manyEvents  = 128
)

// able tells whether an event can be.
func able(v api.Event) bool {
	kinds := 1
	if v.Call {
		kinds = manyKinds
	}
	return isBelow(v.Client, manyClients) && isBelow(v.Op, kinds)
}

// isBelow tells whether x is one of the n numbers from 0 on.
func isBelow(x, n int) bool {
	for k := range n {
		if x == k {
			return true
		}
	}
	return false
}

// checked answers what Check has to answer.
func checked(l []api.Event) (int, api.Errno) {
	var came [manyClients]int // how many events of each client stand ahead
	calls := 0
	for i, v := range l {
		if !able(v) {
			return i, api.ErrArg
		}
		if v.Call && calls >= manyCalls {
			return i, api.ErrBig
		}
		if v.Call && came[v.Client]%2 == 1 || !v.Call && came[v.Client]%2 == 0 {
			return i, api.ErrState
		}
		came[v.Client]++
		if v.Call {
			calls++
		}
	}
	return 0, api.OK
}

// written answers the text of events, be they a history or not.
func written(l ...api.Event) string {
	b := binary.AppendUvarint(nil, uint64(len(l)))
	for _, v := range l {
		switch {
		case v.Call:
			b = append(b, byte(v.Client<<1|1), byte(v.Op))
		default:
			b = append(b, byte(v.Client<<1))
		}
		b = binary.AppendVarint(b, v.Val)
	}
	return string(b)
}

// cutter reads a text from the left, up to the first error.
type cutter struct {
	left string
	e    api.Errno
}

// fail keeps an error, unless there was one.
func (c *cutter) fail(e api.Errno) {
	if c.e == api.OK {
		c.e = e
	}
}

// short answers a short number, as chapter 1 says it.
func (c *cutter) short() []byte {
	goOn := 0
	for goOn < len(c.left) && c.left[goOn] >= 128 {
		goOn++
	}
	switch {
	case goOn >= 9 && len(c.left) > 9 && c.left[9] > 1:
		c.fail(api.ErrForm)
	case goOn == len(c.left):
		c.fail(api.ErrShort)
	case goOn > 0 && c.left[goOn] == 0:
		c.fail(api.ErrForm)
	default:
		s := c.left[:goOn+1]
		c.left = c.left[goOn+1:]
		return []byte(s)
	}
	return nil
}

// one answers a byte that is below n.
func (c *cutter) one(n int) int {
	switch {
	case c.left == "":
		c.fail(api.ErrShort)
	case int(c.left[0]) >= n:
		c.fail(api.ErrForm)
	default:
		x := int(c.left[0])
		c.left = c.left[1:]
		return x
	}
	return 0
}

// read answers what Decode has to answer.
func read(s string) ([]api.Event, api.Errno) {
	c := &cutter{left: s}
	n, _ := binary.Uvarint(c.short())
	if c.e == api.OK && n > manyEvents {
		return nil, api.ErrBig
	}
	var l []api.Event
	for c.e == api.OK && uint64(len(l)) < n {
		who := c.one(2 * manyClients)
		v := api.Event{Client: who >> 1, Call: who&1 == 1}
		if v.Call && c.e == api.OK {
			v.Op = c.one(manyKinds)
		}
		if c.e == api.OK {
			v.Val, _ = binary.Varint(c.short())
		}
		l = append(l, v)
	}
	if c.e == api.OK && c.left != "" {
		c.fail(api.ErrRest)
	}
	if _, e := checked(l); c.e == api.OK {
		c.fail(e)
	}
	if c.e != api.OK {
		return nil, c.e
	}
	return l, api.OK
}

// operations answers the operations of a history.
func operations(l []api.Event) []api.Op {
	var ops []api.Op
	for i, v := range l {
		if !v.Call {
			continue
		}
		o := api.Op{Client: v.Client, Op: v.Op, Arg: v.Val, From: i, To: -1}
		next := slices.IndexFunc(l[i+1:], func(w api.Event) bool { return w.Client == v.Client })
		if next >= 0 {
			o.Done, o.To, o.Ret = true, i+1+next, l[i+1+next].Val
		}
		ops = append(ops, o)
	}
	return ops
}

// judged holds Check, Encode, Ops and Decode of what Encode makes against the chapter's words, and answers Check's error.
func judged(t *testing.T, l []api.Event) api.Errno {
	t.Helper()
	place, asked := checked(l)
	if i, e := hist.Check(l); i != place || e != asked {
		t.Fatalf("Check of %v: %d, error %d, not %d, error %d", l, i, e, place, asked)
	}
	b, e := hist.Encode(l)
	if e != asked || e != api.OK && len(b) != 0 || e == api.OK && string(b) != written(l...) {
		t.Fatalf("Encode of %v: %x, error %d, not %d", l, b, e, asked)
	}
	ops, e := hist.Ops(l)
	if e != asked || e != api.OK && len(ops) != 0 || e == api.OK && !slices.Equal(ops, operations(l)) {
		t.Fatalf("Ops of %v: %v, error %d, not %d", l, ops, e, asked)
	}
	if asked != api.OK {
		return asked
	}
	if again, e := hist.Decode(b); e != api.OK || !slices.Equal(again, l) {
		t.Fatalf("Decode of %x: %v, error %d", b, again, e)
	}
	return api.OK
}

// reads holds Decode of a text against the chapter's words, and answers its error.
func reads(t *testing.T, s string) api.Errno {
	t.Helper()
	want, asked := read(s)
	l, e := hist.Decode([]byte(s))
	if e != asked || !slices.Equal(l, want) {
		t.Fatalf("Decode of %x: %v, error %d, not %v, error %d", s, l, e, want, asked)
	}
	if e != api.OK {
		return e
	}
	if b, e := hist.Encode(l); e != api.OK || string(b) != s {
		t.Fatalf("%x, read and written again: %x, error %d", s, b, e)
	}
	return api.OK
}

// checks asks for Check's answer, and for those of the others with it.
func checks(t *testing.T, place int, asked api.Errno, l ...api.Event) {
	t.Helper()
	if i, e := hist.Check(l); i != place || e != asked {
		t.Errorf("Check of %v: %d, error %d, not %d, error %d", l, i, e, place, asked)
	}
	judged(t, l)
}

// decodes asks for an error of Decode.
func decodes(t *testing.T, s string, asked api.Errno) {
	t.Helper()
	if l, e := hist.Decode([]byte(s)); e != asked || e != api.OK && len(l) != 0 {
		t.Errorf("Decode of %x: %v, error %d, not %d", s, l, e, asked)
	}
	reads(t, s)
}

// call answers a call.
func call(client, op int, val int64) api.Event {
	return api.Event{Client: client, Call: true, Op: op, Val: val}
}

// answer answers an answer.
func answer(client int, val int64) api.Event { return api.Event{Client: client, Val: val} }

// byOne answers n calls of one client, each with its answer.
func byOne(client, n int) []api.Event {
	var l []api.Event
	for k := range n {
		l = append(l, call(client, k%manyKinds, int64(k)), answer(client, int64(-k)))
	}
	return l
}

// byTurns answers n calls, by all clients in turn, each with its answer ahead of the next call.
func byTurns(n int) []api.Event {
	var l []api.Event
	for k := range n {
		l = append(l, call(k%manyClients, (k+3)%manyKinds, int64(k)), answer(k%manyClients, int64(k*k)))
	}
	return l
}

// together answers n calls, up to sixteen at the same time; the answers of each round come in another order than the calls.
func together(n int) []api.Event {
	var l []api.Event
	for from := 0; from < n; from += manyClients {
		round := min(manyClients, n-from)
		for k := range round {
			l = append(l, call(k, (from+k)%7, int64(from-k)))
		}
		for k := range round {
			l = append(l, answer(round-1-k, int64(from+k)))
		}
	}
	return l
}

// waiting answers calls of the first n clients, without answers.
func waiting(n int) []api.Event {
	var l []api.Event
	for k := range n {
		l = append(l, call(k, k, int64(100*k)))
	}
	return l
}

// joined answers rows of events, one behind the other.
func joined(rows ...[]api.Event) []api.Event { return slices.Concat(rows...) }

// widths answers values whose short numbers have 1 to 10 bytes, the least and the greatest of each length.
func widths() []int64 {
	l := []int64{0, 1, -1, 5, math.MaxInt64, math.MaxInt64 - 1, math.MinInt64, math.MinInt64 + 1}
	for bits := 6; bits < 63; bits += 7 {
		p := int64(1) << bits
		l = append(l, p-1, p, p+1, -p+1, -p, -p-1)
	}
	return l
}

// value answers a value of any length.
func value(r *rand.Rand) int64 { return int64(r.Uint64()) >> r.Intn(64) }

// chance answers a history by chance, of at most n events and of at most so many clients.
func chance(r *rand.Rand, n, clients int) []api.Event {
	var l []api.Event
	waits := map[int]bool{}
	calls := 0
	for range n {
		client := r.Intn(clients)
		switch {
		case waits[client]:
			l = append(l, answer(client, value(r)))
		case calls < manyCalls:
			l = append(l, call(client, r.Intn(manyKinds), value(r)))
			calls++
		default:
			continue
		}
		waits[client] = !waits[client]
	}
	return l
}

// samples answers histories of all kinds.
func samples() [][]api.Event {
	r := rand.New(rand.NewSource(14))
	l := [][]api.Event{
		nil,
		{call(0, 1, 5), call(1, 2, 6), answer(0, 7)},
		{call(15, 15, math.MinInt64)},
		{call(3, 0, 1), answer(3, math.MaxInt64)},
		byOne(0, 1), byOne(15, 3), byOne(7, 63), byOne(7, 64),
		byTurns(17), byTurns(64),
		together(16), together(40), together(64),
		waiting(16),
		joined(byOne(4, 63), []api.Event{call(4, 9, -300)}),
		joined(together(48), waiting(16)),
	}
	for k := range 12 {
		l = append(l, chance(r, 4+4*k, 1+k))
	}
	return l
}

// roomy answers a list with room behind its length, and all of its memory.
func roomy[T any](l []T, filler T) (part, whole []T) {
	whole = append(slices.Clone(l), filler, filler, filler, filler)
	return whole[:len(l)], whole
}

// spoil changes a list, and all of the room behind it.
func spoil[T any](l []T, filler T) {
	l = l[:cap(l)]
	for i := range l {
		l[i] = filler
	}
}
