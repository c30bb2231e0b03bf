package hist_test

import (
	"slices"
	"testing"

	"inquest/api"
	"inquest/hist"
)

// What a list is spoilt with; no test has these otherwise.
var (
	otherEvent = api.Event{Client: 77, Call: true, Op: 77, Val: 77}
	otherOp    = api.Op{Client: 77, Op: 77, Arg: 77, Ret: 77, From: 77, To: 77}
)

// rowsOfAllKinds answers histories, and rows of events that are none.
func rowsOfAllKinds() [][]api.Event {
	return append(samples(), byOne(0, 65), []api.Event{answer(0, 0)}, []api.Event{call(0, 0, 0), call(16, 0, 0)}, joined(waiting(16), waiting(2)))
}

// R3: events that are handed in are not changed, not behind their length either.
func TestEventsUnchanged(t *testing.T) {
	for _, l := range rowsOfAllKinds() {
		part, whole := roomy(l, otherEvent)
		was := slices.Clone(whole)
		hist.Check(part)
		hist.Encode(part)
		hist.Ops(part)
		if !slices.Equal(whole, was) {
			t.Errorf("%v came to be %v", was, whole)
		}
	}
}

// R3: bytes that are handed in are not changed, not behind their length either; what stands there is not read.
func TestBytesUnchanged(t *testing.T) {
	for _, l := range rowsOfAllKinds() {
		s := []byte(written(l...))
		for _, n := range []int{0, 1, len(s) / 2, len(s) - 1, len(s)} {
			part, whole := roomy(s[:n], 0x55)
			was := slices.Clone(whole)
			got, e := hist.Decode(part)
			if !slices.Equal(whole, was) {
				t.Errorf("%x came to be %x", was, whole)
			}
			want, asked := read(string(s[:n]))
			if e != asked || !slices.Equal(got, want) {
				t.Errorf("Decode of %x: %v, error %d, not %v, error %d", s[:n], got, e, want, asked)
			}
		}
	}
}

// R3: what is handed in may be changed behind the call, and what was answered stays.
func TestNothingKept(t *testing.T) {
	for _, l := range samples() {
		given, _ := roomy(l, otherEvent)
		b, _ := hist.Encode(given)
		ops, _ := hist.Ops(given)
		spoil(given, otherEvent)
		if string(b) != written(l...) || !slices.Equal(ops, operations(l)) {
			t.Errorf("%v: %x, %v", l, b, ops)
		}
		text, _ := roomy(b, 0x55)
		got, _ := hist.Decode(text)
		spoil(text, 0xff)
		if !slices.Equal(got, l) {
			t.Errorf("%v came to be %v", l, got)
		}
	}
}

// R3: what is answered is nobody else's: it may be changed, with all its room, and the next answer is as it was.
func TestAnswersAreNewMemory(t *testing.T) {
	for _, l := range samples() {
		given := slices.Clone(l)
		b, _ := hist.Encode(given)
		other, _ := hist.Encode(given)
		spoil(b, 0xff)
		if string(other) != written(l...) {
			t.Errorf("Encode of %v: %x", l, other)
		}
		got, _ := hist.Decode(other)
		again, _ := hist.Decode(other)
		spoil(got, otherEvent)
		if !slices.Equal(again, l) || string(other) != written(l...) {
			t.Errorf("Decode of %x: %v", other, again)
		}
		ops, _ := hist.Ops(given)
		more, _ := hist.Ops(given)
		spoil(ops, otherOp)
		if !slices.Equal(more, operations(l)) || !slices.Equal(given, l) {
			t.Errorf("Ops of %v: %v", given, more)
		}
		judged(t, l)
	}
}

// R4: answers do not hang on what was asked ahead, or on how a list came to be.
func TestSameAnswers(t *testing.T) {
	for _, l := range rowsOfAllKinds() {
		judged(t, l)
		hist.Check([]api.Event{call(3, 0, 0)})
		hist.Ops(byOne(3, 64))
		hist.Decode([]byte("\x01\x07\x10"))
		judged(t, slices.Clip(slices.Clone(l)))
	}
}
