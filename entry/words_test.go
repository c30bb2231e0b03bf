package entry_test

import (
	"encoding/binary"
	"fmt"
	"math"
	"math/rand"
	"slices"
	"strings"
	"testing"

	"inquest/api"
	"inquest/entry"
)

// What the chapter says of entries, written anew, for the tests to hold the package against.

const (
	lastJob   = 63
	lastPlace = 63
	mostTime  = 1 << 40
	mostTries = 1 << 30
)

// able tells whether an entry can be.
func able(e api.Entry) bool {
	v := e.Verdict
	if e.Job < 0 || e.Job > lastJob || e.Time < 0 || e.Time > mostTime {
		return false
	}
	if v.Kind != 1 && v.Kind != 2 && v.Kind != 3 && v.Kind != 4 || v.Tries < 0 || v.Tries > mostTries {
		return false
	}
	if len(v.Order) == 0 {
		return true
	}
	return v.Kind == 1 && ableOrder(v.Order)
}

// ableOrder tells whether one number or more are at most 64 from 0 to 63, none twice.
func ableOrder(order []int) bool {
	l := slices.Sorted(slices.Values(order))
	least, greatest := l[0], l[len(l)-1]
	return len(order) <= 64 && least >= 0 && greatest <= lastPlace && len(slices.Compact(l)) == len(order)
}

// parts are the pieces of a text, one behind the other.
type parts struct{ job, time, history, spec, kind, tries, count, order string }

// text answers the pieces as one text.
func (p parts) text() string {
	return p.job + p.time + p.history + p.spec + p.kind + p.tries + p.count + p.order
}

// short answers a short number.
func short(x uint64) string { return string(binary.AppendUvarint(nil, x)) }

// bytesOf answers numbers, a byte each.
func bytesOf(l ...int) string {
	var b []byte
	for _, x := range l {
		b = append(b, byte(x))
	}
	return string(b)
}

// partsOf answers the pieces of an entry's text, be it one that can be or not.
func partsOf(e api.Entry) parts {
	return parts{
		job:     short(uint64(e.Job)),
		time:    short(uint64(e.Time)),
		history: string(e.History[:]),
		spec:    string(e.Spec[:]),
		kind:    bytesOf(e.Verdict.Kind),
		tries:   short(uint64(e.Verdict.Tries)),
		count:   short(uint64(len(e.Verdict.Order))),
		order:   bytesOf(e.Verdict.Order...),
	}
}

// written answers an entry's text.
func written(e api.Entry) string { return partsOf(e).text() }

// read answers what Decode has to answer: it guesses the one entry whose text s may be, and looks whether it is.
func read(s string) (api.Entry, api.Errno) {
	if e := guessed([]byte(s)); able(e) && written(e) == s {
		return e, api.OK
	}
	return api.Entry{}, api.ErrForm
}

// guessed answers an entry with the text b, if there is one.
func guessed(b []byte) api.Entry {
	var e api.Entry
	number := func() int {
		x, n := binary.Uvarint(b)
		b = b[max(n, 0):]
		return int(x)
	}
	e.Job, e.Time = number(), number()
	b = b[copy(e.History[:], b):]
	b = b[copy(e.Spec[:], b):]
	if len(b) > 0 {
		e.Verdict.Kind, b = int(b[0]), b[1:]
	}
	e.Verdict.Tries = number()
	number() // how many there are is told by the text's end, too
	for _, c := range b {
		e.Verdict.Order = append(e.Verdict.Order, int(c))
	}
	return e
}

// wordOf answers what Word has to answer.
func wordOf(kind int) string {
	return map[int]string{1: "fits", 2: "fits-not", 3: "out-of-fuel", 4: "out-of-tries"}[kind]
}

// lineOf answers what Line has to answer.
func lineOf(v api.Verdict) string {
	order := "-"
	if len(v.Order) > 0 {
		order = strings.ReplaceAll(strings.Trim(fmt.Sprint(v.Order), "[]"), " ", ",")
	}
	return fmt.Sprintf("%s %d %s", wordOf(v.Kind), v.Tries, order)
}

// same tells whether two entries are alike.
func same(a, b api.Entry) bool {
	v, w := a.Verdict, b.Verdict
	return a.Job == b.Job && a.Time == b.Time && a.History == b.History && a.Spec == b.Spec &&
		v.Kind == w.Kind && v.Tries == w.Tries && slices.Equal(v.Order, w.Order)
}

// judged holds Check, Encode, Word, Line and Decode of what Encode makes against the chapter's words, and answers Check's error.
func judged(t *testing.T, e api.Entry) api.Errno {
	t.Helper()
	asked := api.ErrArg
	if able(e) {
		asked = api.OK
	}
	if err := entry.Check(e); err != asked {
		t.Fatalf("Check of %v: error %d, not %d", e, err, asked)
	}
	b, err := entry.Encode(e)
	if err != asked || err != api.OK && len(b) != 0 || err == api.OK && string(b) != written(e) {
		t.Fatalf("Encode of %v: %x, error %d, not %d", e, b, err, asked)
	}
	if s := entry.Word(e.Verdict.Kind); s != wordOf(e.Verdict.Kind) {
		t.Fatalf("Word of %d: %q", e.Verdict.Kind, s)
	}
	if s := entry.Line(e.Verdict); s != lineOf(e.Verdict) {
		t.Fatalf("Line of %v: %q, not %q", e.Verdict, s, lineOf(e.Verdict))
	}
	if asked != api.OK {
		return asked
	}
	if again, err := entry.Decode(b); err != api.OK || !same(again, e) {
		t.Fatalf("Decode of %x: %v, error %d, not %v", b, again, err, e)
	}
	return api.OK
}

// reads holds Decode of a text against the chapter's words, and answers its error.
func reads(t *testing.T, s string) api.Errno {
	t.Helper()
	want, asked := read(s)
	e, err := entry.Decode([]byte(s))
	if err != asked || !same(e, want) {
		t.Fatalf("Decode of %x: %v, error %d, not %v, error %d", s, e, err, want, asked)
	}
	if err != api.OK {
		return err
	}
	if b, err := entry.Encode(e); err != api.OK || string(b) != s {
		t.Fatalf("%x, read and written again: %x, error %d", s, b, err)
	}
	return api.OK
}

// checks asks for Check's answer, and for those of the others with it.
func checks(t *testing.T, e api.Entry, asked api.Errno) {
	t.Helper()
	if err := entry.Check(e); err != asked {
		t.Errorf("Check of %v: error %d, not %d", e, err, asked)
	}
	if b, err := entry.Encode(e); err != asked || (err == api.OK) != (len(b) > 0) {
		t.Errorf("Encode of %v: %x, error %d, not %d", e, b, err, asked)
	}
	judged(t, e)
}

// refuses asks Decode for ErrForm.
func refuses(t *testing.T, s string) {
	t.Helper()
	if e, err := entry.Decode([]byte(s)); err != api.ErrForm || !same(e, api.Entry{}) {
		t.Errorf("Decode of %x: %v, error %d", s, e, err)
	}
	reads(t, s)
}

// often asks that each of these was met so many times at least.
func often[K comparable](t *testing.T, met map[K]int, least int, keys ...K) {
	t.Helper()
	for _, k := range keys {
		if met[k] < least {
			t.Errorf("%v: only %d times", k, met[k])
		}
	}
}

// digest answers a digest of 32 unlike bytes.
func digest(first byte) api.Digest {
	var d api.Digest
	for i := range d {
		d[i] = first + byte(i)
	}
	return d
}

// plain answers an entry that can be, with digests of 64 unlike bytes.
func plain(kind int, order ...int) api.Entry {
	return api.Entry{
		Job: 2, Time: 5, History: digest(0x21), Spec: digest(0xa1),
		Verdict: api.Verdict{Kind: kind, Order: order, Tries: 3},
	}
}

// upTo answers the numbers from 0 on, n of them.
func upTo(n int) []int {
	var l []int
	for k := range n {
		l = append(l, k)
	}
	return l
}

// downFrom answers the same numbers the other way round.
func downFrom(n int) []int {
	l := upTo(n)
	slices.Reverse(l)
	return l
}

// placed answers a list in which x stands at a place.
func placed(l []int, at, x int) []int {
	l = slices.Clone(l)
	l[at] = x
	return l
}

// ends are numbers that nothing may be.
func ends() []int { return []int{-1, math.MinInt, math.MaxInt} }

// samples answers entries that can be.
func samples() []api.Entry {
	r := rand.New(rand.NewSource(201))
	l := []api.Entry{
		{Verdict: api.Verdict{Kind: api.Fits}},
		plain(api.Fits), plain(api.FitsNot), plain(api.OutFuel), plain(api.OutTry),
		plain(api.Fits, 0), plain(api.Fits, 63), plain(api.Fits, 1, 0), plain(api.Fits, 0, 63, 1),
		plain(api.Fits, upTo(64)...), plain(api.Fits, downFrom(64)...), plain(api.Fits, downFrom(63)...),
	}
	for kind := 1; kind <= 4; kind++ {
		e := plain(kind)
		e.Job, e.Time, e.Verdict.Tries = lastJob, mostTime, mostTries
		l = append(l, e)
	}
	for range 8 {
		l = append(l, chance(r))
	}
	return l
}

// chance answers an entry that can be, by chance.
func chance(r *rand.Rand) api.Entry {
	e := api.Entry{Job: r.Intn(lastJob + 1), Time: below(r, mostTime+1)}
	r.Read(e.History[:])
	r.Read(e.Spec[:])
	e.Verdict = api.Verdict{Kind: 1 + r.Intn(4), Tries: below(r, mostTries+1)}
	if e.Verdict.Kind == api.Fits {
		e.Verdict.Order = r.Perm(lastPlace + 1)[:r.Intn(lastPlace+2)]
	}
	return e
}

// below answers a number below n, small ones as often as great ones.
func below(r *rand.Rand, n int) int { return r.Intn(n) >> r.Intn(41) }

// anyNumber answers any number, such at the limits often.
func anyNumber(r *rand.Rand) int {
	edges := []int{0, 1, 4, 5, 63, 64, 127, 128, 255, 256, 257, 1 << 32, mostTries, mostTime, math.MaxInt, math.MinInt, -1}
	switch r.Intn(3) {
	case 0:
		return edges[r.Intn(len(edges))]
	case 1:
		return edges[r.Intn(len(edges))] + r.Intn(3) - 1
	}
	return int(r.Uint64()) >> r.Intn(64)
}

// anyEntry answers any entry, one that can be or not.
func anyEntry(r *rand.Rand) api.Entry {
	e := chance(r)
	for range r.Intn(3) {
		v := &e.Verdict
		switch r.Intn(6) {
		case 0:
			e.Job = anyNumber(r)
		case 1:
			e.Time = anyNumber(r)
		case 2:
			v.Kind = anyNumber(r)
		case 3:
			v.Tries = anyNumber(r)
		case 4:
			v.Order = slices.Insert(v.Order, r.Intn(len(v.Order)+1), anyNumber(r))
		case 5:
			v.Order = append(v.Order, v.Order...)
		}
	}
	return e
}

// roomy answers a list with room behind its length, and all of its memory.
func roomy[T any](l []T, filler T) (part, whole []T) {
	whole = append(slices.Clone(l), filler, filler, filler, filler)
	return whole[:len(l)], whole
}

// spoil changes a list, and all of the room behind it.
func spoil[T any](l []T, filler T) {
	l = l[:cap(l)]
	for i := range l {
		l[i] = filler
	}
}
