package lin

// most is the greatest number that Enough answers.
const most = 1 << 62

// Enough answers how many tries are enough.
func Enough(n int) int {
	rows := 0
	for k := 1; k <= n; k++ {
		// A row of k operations is one of them, and behind it nothing, or a row of the k - 1 others.
		if rows+1 > most/k {
			return most
		}
		rows = k * (rows + 1)
	}
	return rows
}
