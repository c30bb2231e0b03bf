package entry_test

import (
	"math/rand"
	"slices"
	"strings"
	"testing"

	"inquest/api"
	"inquest/entry"
)

// other is what lists are spoilt with; no test has it otherwise.
const other = 77777

// entriesOfAllKinds answers entries that can be, and such that can't.
func entriesOfAllKinds() []api.Entry {
	r := rand.New(rand.NewSource(202))
	l := append(samples(), api.Entry{}, plain(5), plain(api.OutTry, 1), plain(api.Fits, 1, 1), plain(api.Fits, upTo(65)...), plain(api.Fits, -1, 64, 3))
	for range 50 {
		l = append(l, anyEntry(r))
	}
	return l
}

// R3: an Order that is handed in is not changed, not behind its length either, and what stands there is not read.
func TestOrderUnchanged(t *testing.T) {
	for _, e := range entriesOfAllKinds() {
		part, whole := roomy(e.Verdict.Order, other)
		was := slices.Clone(whole)
		e.Verdict.Order = part
		judged(t, e)
		entry.Check(e)
		entry.Encode(e)
		entry.Line(e.Verdict)
		if !slices.Equal(whole, was) {
			t.Errorf("%v came to be %v", was, whole)
		}
	}
}

// R3: bytes that are handed in are not changed, not behind their length either, and what stands there is not read.
func TestBytesUnchanged(t *testing.T) {
	for _, e := range entriesOfAllKinds() {
		s := []byte(written(e))
		for n := range len(s) + 1 {
			whole := append(slices.Clone(s), 1, 1, 1, 1)
			was := slices.Clone(whole)
			got, err := entry.Decode(whole[:n])
			if !slices.Equal(whole, was) {
				t.Fatalf("%x came to be %x", was, whole)
			}
			if want, asked := read(string(s[:n])); err != asked || !same(got, want) {
				t.Fatalf("Decode of %x: %v, error %d, not %v, error %d", s[:n], got, err, want, asked)
			}
		}
	}
}

// R3: what is handed in may be changed behind the call, and what was answered stays.
func TestNothingKept(t *testing.T) {
	for _, e := range samples() {
		given := e
		given.Verdict.Order, _ = roomy(e.Verdict.Order, other)
		b, _ := entry.Encode(given)
		line := entry.Line(given.Verdict)
		spoil(given.Verdict.Order, other)
		if string(b) != written(e) || line != lineOf(e.Verdict) {
			t.Errorf("%v: %x, %q", e, b, line)
		}
		text, _ := roomy(b, 0x55)
		got, _ := entry.Decode(text)
		spoil(text, 0xff)
		if !same(got, e) {
			t.Errorf("%v came to be %v", e, got)
		}
	}
}

// R3: what is answered is nobody else's: it may be changed, with all its room, and nothing else is.
func TestAnswersAreNewMemory(t *testing.T) {
	for _, e := range samples() {
		given := e
		given.Verdict.Order = slices.Clone(e.Verdict.Order)
		b, _ := entry.Encode(given)
		again, _ := entry.Encode(given)
		spoil(b, 0xff)
		if string(again) != written(e) || !same(given, e) {
			t.Errorf("Encode of %v: %x", given, again)
		}
		one, _ := entry.Decode(again)
		two, _ := entry.Decode(again)
		spoil(one.Verdict.Order, other)
		spoil(one.History[:], 0xee)
		if string(again) != written(e) || !same(two, e) {
			t.Errorf("Decode of %x: %v, not %v", again, two, e)
		}
		judged(t, e)
	}
}

// R2: beside an error nothing is answered, however much of the text was read.
func TestNothingBesideErrors(t *testing.T) {
	s := written(plain(api.Fits, upTo(64)...))
	for _, text := range []string{s + "\x00", s[:len(s)-1], strings.Replace(s, "\x3e\x3f", "\x3e\x3e", 2)} {
		e, err := entry.Decode([]byte(text))
		if err != api.ErrForm || !same(e, api.Entry{}) {
			t.Errorf("Decode of %x: %v, error %d", text, e, err)
		}
	}
	if b, err := entry.Encode(plain(api.Fits, upTo(65)...)); err != api.ErrArg || len(b) != 0 {
		t.Errorf("Encode of 65 numbers: %x, error %d", b, err)
	}
}

// R4: answers do not hang on what was asked ahead, or on how a list came to be.
func TestSameAnswers(t *testing.T) {
	for _, e := range entriesOfAllKinds() {
		judged(t, e)
		entry.Check(plain(api.Fits, 9, 9))
		entry.Encode(plain(api.Fits, downFrom(64)...))
		entry.Decode([]byte("\x02\x05" + sums))
		entry.Line(api.Verdict{Kind: 9, Order: upTo(99)})
		e.Verdict.Order = slices.Clip(slices.Clone(e.Verdict.Order))
		judged(t, e)
	}
}
