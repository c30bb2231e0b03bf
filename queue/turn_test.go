package queue_test

import (
	"math/rand"
	"slices"
	"testing"
)

// P19.2: where there is no place nobody has a turn.
func TestNoPlace(t *testing.T) {
	for _, last := range lasts(0) {
		noTurn(t, nil, last)
		noTurn(t, []bool{}, last)
	}
}

// P19.2: one place, whatever last is.
func TestOnePlace(t *testing.T) {
	for _, last := range lasts(1) {
		turns(t, []bool{true}, last, 0)
		noTurn(t, []bool{false}, last)
	}
}

// P19.2: nobody wants one, all want one.
func TestNoneAndAll(t *testing.T) {
	for n := 1; n <= 20; n++ {
		for _, last := range lasts(n) {
			noTurn(t, make([]bool, n), last)
			want := 0
			if last >= 0 && last < n-1 {
				want = last + 1
			}
			turns(t, slices.Repeat([]bool{true}, n), last, want)
		}
	}
}

// P19.2: one alone wants one, last itself among them: it has it.
func TestAlone(t *testing.T) {
	for n := 1; n <= 20; n++ {
		for at := range n {
			wants := make([]bool, n)
			wants[at] = true
			for _, last := range lasts(n) {
				turns(t, wants, last, at)
			}
		}
	}
}

// P19.2: those ahead of last alone want one: it goes on from 0; and those behind it alone: the first of them has it.
func TestAheadAndBehind(t *testing.T) {
	for n := 2; n <= 20; n++ {
		for last := range n {
			ahead, behind := make([]bool, n), make([]bool, n)
			for at := range n {
				ahead[at], behind[at] = at < last, at > last
			}
			if last > 0 {
				turns(t, ahead, last, 0)
				ahead[0] = false
			}
			if last > 1 {
				turns(t, ahead, last, 1)
			}
			if last < n-1 {
				turns(t, behind, last, last+1)
				behind[last+1] = false
			}
			if last < n-2 {
				turns(t, behind, last, last+2)
			}
		}
	}
}

// P19.2: last itself comes at the end, behind those ahead of it.
func TestLastAtTheEnd(t *testing.T) {
	turns(t, []bool{true, true}, 0, 1)
	turns(t, []bool{true, true}, 1, 0)
	turns(t, []bool{false, true, true, false}, 2, 1)
	turns(t, []bool{false, true, true, false}, 1, 2)
	turns(t, []bool{false, false, true, false}, 2, 2)
}

// P19.2: a last that is no place is as if it were the last place.
func TestLastIsNoPlace(t *testing.T) {
	for n := 1; n <= 8; n++ {
		for b := range 1 << n {
			wants := bits(n, b)
			want, is := turned(t, wants, n-1)
			for _, last := range append(edges(), lasts(n)...) {
				if last >= 0 && last < n {
					continue
				}
				if at, ok := turned(t, wants, last); at != want || ok != is {
					t.Errorf("%v, %d: %d, %v, not %d, %v", wants, last, at, ok, want, is)
				}
			}
		}
	}
}

// P19.2: all that up to 8 places may want, with every last.
func TestAllWants(t *testing.T) {
	for n := range 9 {
		for b := range 1 << n {
			wants := bits(n, b)
			for _, last := range lasts(n) {
				at, ok := turned(t, wants, last)
				if ok != (b != 0) || ok && b>>at&1 == 0 {
					t.Fatalf("%v, %d: %d, %v", wants, last, at, ok)
				}
			}
		}
	}
}

// P19.2: many places, by chance.
func TestManyPlaces(t *testing.T) {
	r := rand.New(rand.NewSource(190))
	met := map[bool]int{}
	for range 20000 {
		wants := make([]bool, r.Intn(70))
		rare := 1 + r.Intn(80)
		for at := range wants {
			wants[at] = r.Intn(rare) == 0
		}
		_, ok := turned(t, wants, r.Intn(80)-5)
		met[ok]++
	}
	often(t, met, 1000, true, false)
	wants := make([]bool, 1<<20)
	for _, last := range lasts(len(wants))[5:9] {
		noTurn(t, wants, last)
	}
	for _, at := range []int{0, 1, 1 << 19, 1<<20 - 1} {
		wants[at] = true
		for _, last := range []int{least, -1, 0, 1<<19 - 1, 1 << 19, 1<<20 - 2, 1<<20 - 1, 1 << 20, greatest} {
			turned(t, wants, last)
		}
	}
}

// R3: what is wanted stays as it was, behind its length as well, where nothing is looked at.
func TestWantsStay(t *testing.T) {
	for n := range 7 {
		for b := range 1 << n {
			for _, filler := range []bool{false, true} {
				whole := append(bits(n, b), filler, filler, filler)
				was := slices.Clone(whole)
				for _, last := range lasts(n) {
					turned(t, whole[:n], last)
					if !slices.Equal(whole, was) {
						t.Fatalf("%v came to be %v", was, whole)
					}
				}
			}
		}
	}
}

// R4: the same call answers the same, whatever was asked between, also with a list that was changed from call to call.
func TestTurnKeepsNothing(t *testing.T) {
	r := rand.New(rand.NewSource(191))
	wants := make([]bool, 6)
	for range 5000 {
		at := r.Intn(len(wants))
		wants[at] = !wants[at]
		last := r.Intn(len(wants))
		first, ok := turned(t, wants, last)
		turned(t, bits(5, r.Intn(32)), anyNumber(r))
		if again, is := turned(t, wants, last); again != first || is != ok {
			t.Fatalf("%v, %d: %d, %v, and then %d, %v", wants, last, first, ok, again, is)
		}
	}
}
