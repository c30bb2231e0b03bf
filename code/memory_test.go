package code_test

import (
	"slices"
	"testing"

	"inquest/api"
	"inquest/code"
)

// otherIns is what a list is spoilt with; no test has it otherwise.
var otherIns = api.Ins{Op: 77, N: 77}

// rowsOfAllKinds answers code, and rows of instructions that are none.
func rowsOfAllKinds() [][]api.Ins {
	l := append(samples(), longest()...)
	for _, e := range []api.Errno{api.ErrBig, api.ErrCode, api.ErrShort, api.ErrFull, api.ErrRest, api.ErrFlow} {
		l = append(l, noCode()[e]...)
	}
	return l
}

// R3: instructions that are handed in are not changed, not behind their length either; what stands there is not read.
func TestInstructionsUnchanged(t *testing.T) {
	for _, l := range rowsOfAllKinds() {
		for _, filler := range []api.Ins{otherIns, refuse, jump(0)} {
			part, whole := roomy(l, filler)
			was := slices.Clone(whole)
			judged(t, part)
			code.Check(part)
			code.Depths(part)
			code.Encode(part)
			if !slices.Equal(whole, was) {
				t.Errorf("%v came to be %v", was, whole)
			}
		}
	}
}

// R3: bytes that are handed in are not changed, not behind their length either; what stands there is not read.
func TestBytesUnchanged(t *testing.T) {
	for _, l := range rowsOfAllKinds() {
		s := []byte(written(l...))
		for _, n := range []int{0, 1, len(s) / 2, len(s) - 1, len(s)} {
			part, whole := roomy(s[:n], 0x13)
			was := slices.Clone(whole)
			got, e := code.Decode(part)
			if !slices.Equal(whole, was) {
				t.Errorf("%x came to be %x", was, whole)
			}
			want, asked := read(string(s[:n]))
			if e != asked || !slices.Equal(got, want) {
				t.Errorf("Decode of %x: %v, error %d, not %v, error %d", s[:n], got, e, want, asked)
			}
		}
	}
}

// R3: what is handed in may be changed behind the call, and what was answered stays.
func TestNothingKept(t *testing.T) {
	for _, l := range append(samples(), longest()...) {
		given, _ := roomy(l, otherIns)
		b, _ := code.Encode(given)
		depths := code.Depths(given)
		spoil(given, otherIns)
		want, _, _ := checked(l)
		if string(b) != written(l...) || !slices.Equal(depths, want) {
			t.Errorf("%v: %x, %v", l, b, depths)
		}
		text, _ := roomy(b, 0x13)
		got, _ := code.Decode(text)
		spoil(text, 0xff)
		if !slices.Equal(got, l) {
			t.Errorf("%v came to be %v", l, got)
		}
	}
}

// R3: what is answered is nobody else's: it may be changed, with all its room, and the next answer is as it was.
func TestAnswersAreNewMemory(t *testing.T) {
	for _, l := range append(samples(), longest()...) {
		given := slices.Clone(l)
		b, _ := code.Encode(given)
		other, _ := code.Encode(given)
		spoil(b, 0xff)
		if string(other) != written(l...) {
			t.Errorf("Encode of %v: %x", l, other)
		}
		got, _ := code.Decode(other)
		again, _ := code.Decode(other)
		spoil(got, otherIns)
		if !slices.Equal(again, l) || string(other) != written(l...) {
			t.Errorf("Decode of %x: %v", other, again)
		}
		depths := code.Depths(given)
		more := code.Depths(given)
		spoil(depths, 77)
		want, _, _ := checked(l)
		if !slices.Equal(more, want) || !slices.Equal(given, l) {
			t.Errorf("Depths of %v: %v", given, more)
		}
		judged(t, l)
	}
}

// R4: answers do not hang on what was asked ahead, or on how a list came to be.
func TestSameAnswers(t *testing.T) {
	for _, l := range rowsOfAllKinds() {
		judged(t, l)
		code.Check([]api.Ins{push(1), jump(0)})
		code.Depths(rising(manyPlace))
		code.Decode([]byte("\x02\x00\x80\x00"))
		judged(t, slices.Clip(slices.Clone(l)))
	}
}
