package entry_test

import (
	"math"
	"strings"
	"testing"

	"inquest/api"
	"inquest/entry"
)

// lines asks for the line of a verdict.
func lines(t *testing.T, want string, kind, tries int, order ...int) {
	t.Helper()
	v := api.Verdict{Kind: kind, Order: order, Tries: tries}
	if s := entry.Line(v); s != want {
		t.Errorf("Line of %v: %q, not %q", v, s, want)
	}
	judged(t, api.Entry{Verdict: v})
}

// The chapter's examples.
func TestExampleLines(t *testing.T) {
	lines(t, "fits 3 1,0", api.Fits, 3, 1, 0)
	lines(t, "out-of-tries 9 -", api.OutTry, 9)
}

// P20.3: a word for each Kind, and none for what is no Kind.
func TestWord(t *testing.T) {
	for kind, want := range []string{"", "fits", "fits-not", "out-of-fuel", "out-of-tries", ""} {
		if s := entry.Word(kind); s != want {
			t.Errorf("Word of %d: %q, not %q", kind, s, want)
		}
	}
	for _, kind := range append(ends(), 6, 255, 256, 257, 1<<32+1, math.MinInt+1, -2, -4) {
		if s := entry.Word(kind); s != "" {
			t.Errorf("Word of %d: %q", kind, s)
		}
	}
}

// P20.3: lines of each Kind; of none of these the blank stands all the same.
func TestLineKinds(t *testing.T) {
	lines(t, "fits 0 -", api.Fits, 0)
	lines(t, "fits-not 0 -", api.FitsNot, 0)
	lines(t, "out-of-fuel 0 -", api.OutFuel, 0)
	lines(t, "out-of-tries 0 -", api.OutTry, 0)
	lines(t, "fits-not 7 2", api.FitsNot, 7, 2)
	lines(t, "out-of-fuel 7 2,3", api.OutFuel, 7, 2, 3)
	lines(t, "out-of-tries 7 3,2", api.OutTry, 7, 3, 2)
	for _, kind := range append(ends(), 0, 5, 257) {
		lines(t, " 0 -", kind, 0)
		lines(t, " 12 4,5", kind, 12, 4, 5)
	}
}

// P20.3: tries in decimal digits, such as no verdict has among them.
func TestLineTries(t *testing.T) {
	for tries, digits := range map[int]string{
		0: "0", 9: "9", 10: "10", 100: "100", 1073741823: "1073741823", api.MaxTries: "1073741824",
		-1: "-1", -10: "-10", math.MaxInt: "9223372036854775807", math.MinInt: "-9223372036854775808",
	} {
		lines(t, "fits "+digits+" -", api.Fits, tries)
		lines(t, "out-of-fuel "+digits+" -", api.OutFuel, tries)
		lines(t, "fits "+digits+" 10,9", api.Fits, tries, 10, 9)
	}
}

// P20.3: numbers of an Order, commas between and none at the end; of none of them -.
func TestLineOrder(t *testing.T) {
	if s := entry.Line(api.Verdict{Kind: api.Fits, Order: []int{}}); s != "fits 0 -" {
		t.Errorf("Line of an Order without numbers: %q", s)
	}
	lines(t, "fits 1 0", api.Fits, 1, 0)
	lines(t, "fits 1 63", api.Fits, 1, 63)
	lines(t, "fits 2 0,0", api.Fits, 2, 0, 0)
	lines(t, "fits 2 -1", api.Fits, 2, -1)
	lines(t, "fits 2 64,-64,1000", api.Fits, 2, 64, -64, 1000)
	lines(t, "fits 2 -9223372036854775808,9223372036854775807", api.Fits, 2, math.MinInt, math.MaxInt)
	all := "0,1,2,3,4,5,6,7,8,9,10,11,12,13,14,15,16,17,18,19,20,21,22,23,24,25,26,27,28,29,30,31," +
		"32,33,34,35,36,37,38,39,40,41,42,43,44,45,46,47,48,49,50,51,52,53,54,55,56,57,58,59,60,61,62,63"
	lines(t, "fits 64 "+all, api.Fits, 64, upTo(64)...)
	lines(t, "fits 64 "+all+",64", api.Fits, 64, upTo(65)...)
	lines(t, "fits 5 7"+strings.Repeat(",7", 999), api.Fits, 5, sevens(1000)...)
}

// sevens answers a seven so many times.
func sevens(n int) []int {
	l := make([]int, n)
	spoil(l, 7)
	return l
}
