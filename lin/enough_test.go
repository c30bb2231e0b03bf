package lin_test

import (
	"math"
	"math/big"
	"testing"

	"inquest/lin"
)

// sum answers what Enough adds up, by the chapter's words: n, and n times n less 1, and so on up to n!.
func sum(n int) *big.Int {
	all, row := new(big.Int), big.NewInt(1)
	for k := range max(n, 0) {
		row.Mul(row, big.NewInt(int64(n-k)))
		all.Add(all, row)
	}
	return all
}

// P18.3: the sum, as far as it is at most 2^62.
func TestEnough(t *testing.T) {
	limit := new(big.Int).Lsh(big.NewInt(1), 62)
	for n := -70; n < 300; n++ {
		want := sum(n)
		if (n >= 20) != (want.Cmp(limit) > 0) {
			t.Fatalf("the sum of %d is %v", n, want)
		}
		if want.Cmp(limit) > 0 {
			want = limit
		}
		if got := lin.Enough(n); big.NewInt(int64(got)).Cmp(want) != 0 {
			t.Errorf("Enough(%d): %d, not %v", n, got, want)
		}
	}
}

// P18.3: numbers that were reckoned by hand, and those far away.
func TestEnoughOf(t *testing.T) {
	for n, want := range map[int]int{
		0: 0, 1: 1, 2: 4, 3: 15, 4: 64, 5: 325, 6: 1956,
		-1: 0, -2: 0, -20: 0, -1 << 32: 0, math.MinInt: 0, math.MinInt + 1: 0,
		20: 1 << 62, 21: 1 << 62, 22: 1 << 62, 63: 1 << 62, 64: 1 << 62, 65: 1 << 62,
		1 << 31: 1 << 62, 1 << 32: 1 << 62, 1 << 62: 1 << 62, math.MaxInt - 1: 1 << 62, math.MaxInt: 1 << 62,
	} {
		if got := lin.Enough(n); got != want {
			t.Errorf("Enough(%d): %d, not %d", n, got, want)
		}
	}
}

// P18.3: as many rows of one or more places, each once at most, as can be counted.
func TestEnoughCounted(t *testing.T) {
	for n := range 7 {
		count := 0
		for k := 1; k <= n; k++ {
			rows(k, 0, n, func(l []int) {
				var met [8]int
				for _, x := range l {
					met[x]++
					if met[x] > 1 {
						return
					}
				}
				count++
			})
		}
		if got := lin.Enough(n); got != count {
			t.Errorf("Enough(%d): %d, not %d", n, got, count)
		}
	}
}

// P18.3: more operations never need less.
func TestEnoughRises(t *testing.T) {
	for n := -10; n < 200; n++ {
		if a, b := lin.Enough(n), lin.Enough(n+1); a > b || n >= 0 && n < 20 && a == b {
			t.Errorf("Enough(%d): %d; one more: %d", n, a, b)
		}
	}
}
