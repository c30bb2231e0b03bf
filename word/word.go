// Package word is layer 1: see shared/doc/01-word.md.
package word

import "inquest/api"

const (
	mostBytes = 8   // a number of 64 bits has no more
	goesOn    = 128 // is added to each byte of a short number but the last one
	tenth     = 9   // the place of the tenth byte: nine have 63 bits, so that one bit is left for it
)

// Put answers a number as so many bytes.
func Put(x uint64, n int) []byte {
	if n < 1 || n > mostBytes {
		return nil
	}
	b := make([]byte, n)
	for i := range n {
		b[n-1-i] = byte(x)
		x >>= 8
	}
	return b
}

// Get answers the number that bytes are.
func Get(b []byte) (uint64, bool) {
	if len(b) < 1 || len(b) > mostBytes {
		return 0, false
	}
	x := uint64(0)
	for _, c := range b {
		x = x<<8 | uint64(c)
	}
	return x, true
}

// Var answers a short number.
func Var(x uint64) []byte {
	var b []byte
	for x >= goesOn {
		b = append(b, byte(x%goesOn)+goesOn)
		x /= goesOn
	}
	return append(b, byte(x))
}

// ReadVar reads a short number.
func ReadVar(b []byte) (uint64, int, api.Errno) {
	x := uint64(0)
	for i, c := range b {
		// This stands ahead of the test for a last byte: a tenth byte that is not the last one is above 1, too.
		if i == tenth && c > 1 {
			return 0, 0, api.ErrForm
		}
		x |= uint64(c%goesOn) << (7 * i)
		if c >= goesOn {
			continue
		}
		if c == 0 && i > 0 {
			return 0, 0, api.ErrForm
		}
		return x, i + 1, api.OK
	}
	return 0, 0, api.ErrShort
}

// Zig folds numbers below 0 between the others.
func Zig(x int64) uint64 {
	if x >= 0 {
		return 2 * uint64(x)
	}
	// -2x - 1 is 2(-x - 1) + 1, and -x - 1, unlike -x, is a number even of the least x.
	return 2*uint64(-(x+1)) + 1
}

// Zag unfolds.
func Zag(u uint64) int64 {
	half := int64(u / 2)
	if u%2 == 0 {
		return half
	}
	return -half - 1
}

// Turn turns 32 bits.
func Turn(x uint32, n int) uint32 {
	// 32 divides the wrap-round of uint, so numbers below 0 come out modulo 32, too.
	places := uint(n) % 32
	return x>>places | x<<(32-places)
}

// Low answers the lowest bits with their sign.
func Low(x int64, n int) int64 {
	if n < 1 {
		return 0
	}
	if n >= 64 {
		return x
	}
	// Up to the top and back: on the way back the sign is spread.
	rest := 64 - n
	return x << rest >> rest
}
