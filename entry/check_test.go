package entry_test

import (
	"math"
	"slices"
	"testing"

	"inquest/api"
)

// P20.1: an entry of noughts has no Kind; with one it can be.
func TestCheckZero(t *testing.T) {
	checks(t, api.Entry{}, api.ErrArg)
	checks(t, api.Entry{Verdict: api.Verdict{Kind: api.Fits}}, api.OK)
}

// P20.1: Job is 0 to 63.
func TestCheckJob(t *testing.T) {
	e := plain(api.Fits, 1, 0)
	for job := range lastJob + 1 {
		e.Job = job
		checks(t, e, api.OK)
	}
	for _, job := range append(ends(), 64, 65, 127, 128, 256, 319, 1<<32, -64) {
		e.Job = job
		checks(t, e, api.ErrArg)
	}
}

// P20.1: Time is 0 to MaxTime.
func TestCheckTime(t *testing.T) {
	e := plain(api.FitsNot)
	for _, time := range []int{0, 1, 63, 64, 127, 128, mostTries, mostTries + 1, 1 << 32, mostTime - 1, mostTime} {
		e.Time = time
		checks(t, e, api.OK)
	}
	for _, time := range append(ends(), mostTime+1, mostTime+2, 2*mostTime, math.MinInt+1, -mostTime) {
		e.Time = time
		checks(t, e, api.ErrArg)
	}
}

// P20.1: Kind is 1 to 4, with an Order or without.
func TestCheckKind(t *testing.T) {
	for kind := 1; kind <= 4; kind++ {
		checks(t, plain(kind), api.OK)
	}
	for _, kind := range append(ends(), 0, 5, 6, 255, 256, 257, 260, 1<<32+1, math.MinInt+1, -2) {
		checks(t, plain(kind), api.ErrArg)
		checks(t, plain(kind, 0), api.ErrArg)
		checks(t, plain(kind, upTo(64)...), api.ErrArg)
	}
}

// P20.1: Tries is 0 to MaxTries.
func TestCheckTries(t *testing.T) {
	for kind := 1; kind <= 4; kind++ {
		e := plain(kind)
		for _, tries := range []int{0, 1, 63, 64, 127, 128, 10000, mostTries - 1, mostTries} {
			e.Verdict.Tries = tries
			checks(t, e, api.OK)
		}
		for _, tries := range append(ends(), mostTries+1, mostTries+2, 1<<31, 1<<32, mostTime, -mostTries) {
			e.Verdict.Tries = tries
			checks(t, e, api.ErrArg)
		}
	}
}

// P20.1: Order of Fits: how many numbers, each of them once.
func TestCheckOrderLength(t *testing.T) {
	checks(t, plain(api.Fits, []int{}...), api.OK)
	e := plain(api.Fits)
	e.Verdict.Order = []int{}
	checks(t, e, api.OK)
	for n := range 65 {
		checks(t, plain(api.Fits, upTo(n)...), api.OK)
		checks(t, plain(api.Fits, downFrom(n)...), api.OK)
		checks(t, plain(api.Fits, upTo(64)[64-n:]...), api.OK)
	}
	for _, more := range append(ends(), 0, 1, 31, 63, 64, 65, 255, 256) {
		checks(t, plain(api.Fits, append(upTo(64), more)...), api.ErrArg)
		checks(t, plain(api.Fits, append([]int{more}, downFrom(64)...)...), api.ErrArg)
		checks(t, plain(api.Fits, slices.Insert(upTo(64), 32, more)...), api.ErrArg)
	}
	checks(t, plain(api.Fits, append(upTo(64), upTo(64)...)...), api.ErrArg)
	checks(t, plain(api.Fits, make([]int, 100000)...), api.ErrArg)
}

// P20.1: numbers of an Order are 0 to 63, at each place.
func TestCheckOrderNumbers(t *testing.T) {
	for x := range lastPlace + 1 {
		checks(t, plain(api.Fits, x), api.OK)
	}
	for _, x := range append(ends(), 64, 65, 127, 128, 255, 256, 257, 1<<32, math.MinInt+5, -64) {
		checks(t, plain(api.Fits, x), api.ErrArg)
		for _, order := range [][]int{upTo(2), downFrom(3), upTo(64)} {
			for at := range order {
				checks(t, plain(api.Fits, placed(order, at, x)...), api.ErrArg)
			}
		}
	}
}

// P20.1: no number of an Order stands there twice, wherever.
func TestCheckOrderTwice(t *testing.T) {
	for _, n := range []int{2, 3, 5, 64} {
		for _, order := range [][]int{upTo(n), downFrom(n), upTo(64)[64-n:]} {
			for to := range order {
				for from := range to {
					checks(t, plain(api.Fits, placed(order, to, order[from])...), api.ErrArg)
					checks(t, plain(api.Fits, placed(order, from, order[to])...), api.ErrArg)
				}
			}
		}
	}
}

// P20.1: other Kinds have no Order.
func TestCheckOrderOfOthers(t *testing.T) {
	for _, kind := range []int{api.FitsNot, api.OutFuel, api.OutTry} {
		e := plain(kind)
		e.Verdict.Order = []int{}
		checks(t, e, api.OK)
		for _, order := range [][]int{{0}, {63}, {-1}, {64}, {0, 0}, {1, 0}, upTo(64), upTo(65)} {
			checks(t, plain(kind, order...), api.ErrArg)
		}
	}
}

// P20.1: digests may be any.
func TestCheckDigests(t *testing.T) {
	for c := range 256 {
		e := plain(api.OutFuel)
		for i := range e.History {
			e.History[i], e.Spec[i] = byte(c), byte(255-c)
		}
		checks(t, e, api.OK)
	}
}

// P20.1: all that a number may be at its limits, with all that the others may.
func TestCheckTogether(t *testing.T) {
	met := map[api.Errno]int{}
	orders := [][]int{nil, {}, {0}, {63}, {64}, {-1}, {1, 0}, {1, 1}, upTo(64), upTo(65)}
	for _, job := range append(ends(), 0, 63, 64) {
		for _, time := range append(ends(), 0, mostTime, mostTime+1) {
			for _, kind := range append(ends(), 0, 1, 2, 3, 4, 5, 257) {
				for _, tries := range append(ends(), 0, mostTries, mostTries+1) {
					for _, order := range orders {
						e := plain(kind, order...)
						e.Job, e.Time, e.Verdict.Tries = job, time, tries
						met[judged(t, e)]++
					}
				}
			}
		}
	}
	often(t, met, 96, api.OK, api.ErrArg)
}
