package word_test

import (
	"bytes"
	"math"
	"math/big"
	"testing"

	"inquest/api"
	"inquest/word"
)

// spread answers numbers of all lengths: those around each power of two, and a row that looks like chance.
func spread() []uint64 {
	l := []uint64{0, math.MaxUint64}
	for i := range 64 {
		p := uint64(1) << i
		l = append(l, p-1, p, p+1, math.MaxUint64-p)
	}
	x := uint64(1)
	for range 500 {
		x = x*6364136223846793005 + 1442695040888963407
		l = append(l, x, x>>(x%64))
	}
	return l
}

// P1.1
func TestPut(t *testing.T) {
	const x = 0x0102030405060708
	for _, c := range []struct {
		x    uint64
		n    int
		want string
	}{
		{258, 2, "\x01\x02"},
		{258, 1, "\x02"},
		{258, 3, "\x00\x01\x02"},
		{0, 1, "\x00"},
		{0, 8, "\x00\x00\x00\x00\x00\x00\x00\x00"},
		{x, 1, "\x08"},
		{x, 2, "\x07\x08"},
		{x, 3, "\x06\x07\x08"},
		{x, 4, "\x05\x06\x07\x08"},
		{x, 5, "\x04\x05\x06\x07\x08"},
		{x, 6, "\x03\x04\x05\x06\x07\x08"},
		{x, 7, "\x02\x03\x04\x05\x06\x07\x08"},
		{x, 8, "\x01\x02\x03\x04\x05\x06\x07\x08"},
		{math.MaxUint64, 8, "\xff\xff\xff\xff\xff\xff\xff\xff"},
		{5, 0, ""},
		{5, 9, ""},
		{5, 16, ""},
		{5, -1, ""},
		{5, math.MaxInt, ""},
		{5, math.MinInt, ""},
	} {
		if got := word.Put(c.x, c.n); string(got) != c.want {
			t.Errorf("Put(%d, %d): %x, not %x", c.x, c.n, got, c.want)
		}
	}
}

// P1.1, P1.2, by R3
func TestAnswersAreNewMemory(t *testing.T) {
	word.Put(7, 8)[7] = 9
	if got := word.Put(7, 8); got[7] != 7 {
		t.Errorf("Put(7, 8): %x", got)
	}
	word.Var(7)[0] = 9
	if got := word.Var(7); got[0] != 7 {
		t.Errorf("Var(7): %x", got)
	}
}

// P1.1
func TestGet(t *testing.T) {
	for _, c := range []struct {
		b    string
		want uint64
		ok   bool
	}{
		{"\x00\x07", 7, true},
		{"\x01\x02", 258, true},
		{"\x00", 0, true},
		{"\xff", 255, true},
		{"\x01\x02\x03\x04\x05\x06\x07", 0x01020304050607, true},
		{"\x01\x02\x03\x04\x05\x06\x07\x08", 0x0102030405060708, true},
		{"\xff\xff\xff\xff\xff\xff\xff\xff", math.MaxUint64, true},
		{"", 0, false},
		{"\x00\x00\x00\x00\x00\x00\x00\x00\x07", 0, false},
		{"\x01\x02\x03\x04\x05\x06\x07\x08\x09", 0, false},
		{"\x01\x02\x03\x04\x05\x06\x07\x08\x09\x0a\x0b\x0c\x0d\x0e\x0f\x10", 0, false},
	} {
		if got, ok := word.Get([]byte(c.b)); got != c.want || ok != c.ok {
			t.Errorf("Get(%x): %d, %v, not %d, %v", c.b, got, ok, c.want, c.ok)
		}
	}
	if got, ok := word.Get(nil); got != 0 || ok {
		t.Errorf("Get(nil): %d, %v", got, ok)
	}
}

const nineOn = "\x80\x80\x80\x80\x80\x80\x80\x80\x80"
const nineFull = "\xff\xff\xff\xff\xff\xff\xff\xff\xff"

// P1.2
func TestVar(t *testing.T) {
	for _, c := range []struct {
		x    uint64
		want string
	}{
		{0, "\x00"},
		{1, "\x01"},
		{127, "\x7f"},
		{128, "\x80\x01"},
		{255, "\xff\x01"},
		{256, "\x80\x02"},
		{300, "\xac\x02"},
		{1<<14 - 1, "\xff\x7f"},
		{1 << 14, "\x80\x80\x01"},
		{1<<63 - 1, nineFull[:8] + "\x7f"},
		{1 << 63, nineOn + "\x01"},
		{math.MaxUint64, nineFull + "\x01"},
	} {
		if got := word.Var(c.x); string(got) != c.want {
			t.Errorf("Var(%d): %x, not %x", c.x, got, c.want)
		}
	}
}

// P1.2
func TestVarHasTheFormOfAShortNumber(t *testing.T) {
	for _, x := range spread() {
		b := word.Var(x)
		last := len(b) - 1
		for i, c := range b {
			if c < 128 && i < last || c >= 128 && i == last || c == 0 && i > 0 {
				t.Errorf("Var(%d): %x", x, b)
				break
			}
		}
	}
}

// P1.2
func TestReadVar(t *testing.T) {
	for _, c := range []struct {
		b    string
		want uint64
		n    int
	}{
		{"\x00", 0, 1},
		{"\x00\x00", 0, 1},
		{"\x00\x80", 0, 1},
		{"\x01", 1, 1},
		{"\x7f", 127, 1},
		{"\x7f\xff", 127, 1},
		{"\x80\x01", 128, 2},
		{"\xac\x02", 300, 2},
		{"\xac\x02\xff", 300, 2},
		{"\xac\x02\x00", 300, 2},
		{"\x80\x80\x01", 1 << 14, 3},
		{nineFull[:8] + "\x7f", 1<<63 - 1, 9},
		{nineOn + "\x01", 1 << 63, 10},
		{nineOn + "\x01\x80", 1 << 63, 10},
		{nineFull + "\x01", math.MaxUint64, 10},
		{nineFull + "\x01\xff\xff", math.MaxUint64, 10},
	} {
		if x, n, e := word.ReadVar([]byte(c.b)); x != c.want || n != c.n || e != api.OK {
			t.Errorf("ReadVar(%x): %d, %d, %v, not %d, %d", c.b, x, n, e, c.want, c.n)
		}
	}
}

// P1.2
func TestReadVarOfWrongBytes(t *testing.T) {
	for _, c := range []struct {
		b    string
		want api.Errno
	}{
		{"", api.ErrShort},
		{"\x80", api.ErrShort},
		{"\xff", api.ErrShort},
		{"\x80\x80", api.ErrShort},
		{nineOn, api.ErrShort},
		{nineFull, api.ErrShort},
		{"\x80\x00", api.ErrForm},
		{"\xac\x00", api.ErrForm},
		{"\x80\x00\x01", api.ErrForm},
		{"\x80\x80\x00", api.ErrForm},
		{nineOn[:8] + "\x00", api.ErrForm},
		{nineOn + "\x00", api.ErrForm},
		{nineOn + "\x02", api.ErrForm},
		{nineOn + "\x7f", api.ErrForm},
		{nineOn + "\x80", api.ErrForm},
		{nineOn + "\x81", api.ErrForm},
		{nineFull + "\xff", api.ErrForm},
		{nineOn + "\x80\x01", api.ErrForm},
		{nineOn + "\x81\x00", api.ErrForm},
		{nineOn + nineOn, api.ErrForm},
	} {
		if x, n, e := word.ReadVar([]byte(c.b)); x != 0 || n != 0 || e != c.want {
			t.Errorf("ReadVar(%x): %d, %d, %v, not %v", c.b, x, n, e, c.want)
		}
	}
	if x, n, e := word.ReadVar(nil); x != 0 || n != 0 || e != api.ErrShort {
		t.Errorf("ReadVar(nil): %d, %d, %v", x, n, e)
	}
}

// P1.1, P1.2, by R3
func TestWhatIsReadIsNotChanged(t *testing.T) {
	for _, s := range []string{"\xac\x02\xff\x00", "\x80\x00", "\x80", nineOn + "\x02"} {
		b := []byte(s)
		word.Get(b)
		word.ReadVar(b)
		if string(b) != s {
			t.Errorf("%x was %x", b, s)
		}
	}
}

var folds = []struct {
	x int64
	u uint64
}{
	{0, 0},
	{-1, 1},
	{1, 2},
	{-2, 3},
	{2, 4},
	{63, 126},
	{-64, 127},
	{64, 128},
	{math.MaxInt32, 1<<32 - 2},
	{math.MinInt32, 1<<32 - 1},
	{math.MaxInt64 - 1, math.MaxUint64 - 3},
	{math.MinInt64 + 1, math.MaxUint64 - 2},
	{math.MaxInt64, math.MaxUint64 - 1},
	{math.MinInt64, math.MaxUint64},
}

// P1.3
func TestZigZag(t *testing.T) {
	for _, c := range folds {
		if got := word.Zig(c.x); got != c.u {
			t.Errorf("Zig(%d): %d, not %d", c.x, got, c.u)
		}
		if got := word.Zag(c.u); got != c.x {
			t.Errorf("Zag(%d): %d, not %d", c.u, got, c.x)
		}
	}
}

// wideZig works Zig out by numbers that do not wrap round.
func wideZig(x int64) uint64 {
	twice := new(big.Int).Mul(big.NewInt(2), big.NewInt(x))
	if x < 0 {
		twice.Neg(twice)
		twice.Sub(twice, big.NewInt(1))
	}
	return twice.Uint64()
}

// P1.3
func TestZigAsWideNumbers(t *testing.T) {
	for _, u := range spread() {
		if x := int64(u); word.Zig(x) != wideZig(x) {
			t.Errorf("Zig(%d): %d, not %d", x, word.Zig(x), wideZig(x))
		}
	}
}

// P1.4
func TestTurn(t *testing.T) {
	for _, c := range []struct {
		x    uint32
		n    int
		want uint32
	}{
		{1, 1, 1 << 31},
		{2, 1, 1},
		{0x12345678, 0, 0x12345678},
		{0x12345678, 4, 0x81234567},
		{0x12345678, 8, 0x78123456},
		{0x12345678, 16, 0x56781234},
		{0x12345678, 28, 0x23456781},
		{1, 31, 2},
		{1, 32, 1},
		{0x12345678, 32, 0x12345678},
		{1, 33, 1 << 31},
		{1, 64, 1},
		{0x12345678, 100, 0x81234567},
		{1, -1, 2},
		{1 << 31, -1, 1},
		{0x12345678, -4, 0x23456781},
		{1, -31, 1 << 31},
		{1, -32, 1},
		{1, -33, 2},
		{0x12345678, math.MaxInt, 0x2468acf0},
		{0x12345678, math.MinInt, 0x12345678},
		{0x12345678, math.MinInt + 1, 0x091a2b3c},
		{0, 5, 0},
		{math.MaxUint32, 5, math.MaxUint32},
	} {
		if got := word.Turn(c.x, c.n); got != c.want {
			t.Errorf("Turn(%x, %d): %x, not %x", c.x, c.n, got, c.want)
		}
	}
}

// slowTurn moves one bit at a time.
func slowTurn(x uint32, n int) uint32 {
	for range ((n % 32) + 32) % 32 {
		x = x/2 + x%2*(1<<31)
	}
	return x
}

// P1.4
func TestTurnBitByBit(t *testing.T) {
	for _, x := range spread() {
		for n := -70; n <= 70; n++ {
			if got, want := word.Turn(uint32(x), n), slowTurn(uint32(x), n); got != want {
				t.Fatalf("Turn(%x, %d): %x, not %x", uint32(x), n, got, want)
			}
		}
	}
}

// P1.4
func TestLow(t *testing.T) {
	for _, c := range []struct {
		x    int64
		n    int
		want int64
	}{
		{255, 8, -1},
		{127, 8, 127},
		{128, 8, -128},
		{256, 8, 0},
		{-1, 8, -1},
		{-129, 8, 127},
		{255, 9, 255},
		{0, 1, 0},
		{1, 1, -1},
		{2, 1, 0},
		{-1, 1, -1},
		{1<<31 - 1, 32, 1<<31 - 1},
		{1 << 31, 32, -1 << 31},
		{1<<62 - 1, 63, 1<<62 - 1},
		{1 << 62, 63, -1 << 62},
		{math.MaxInt64, 63, -1},
		{math.MinInt64, 63, 0},
		{math.MaxInt64, 64, math.MaxInt64},
		{math.MinInt64, 64, math.MinInt64},
		{math.MaxInt64, 65, math.MaxInt64},
		{math.MinInt64, 65, math.MinInt64},
		{-5, 128, -5},
		{-5, math.MaxInt, -5},
		{-1, 0, 0},
		{-1, -1, 0},
		{-1, -64, 0},
		{-1, math.MinInt, 0},
	} {
		if got := word.Low(c.x, c.n); got != c.want {
			t.Errorf("Low(%d, %d): %d, not %d", c.x, c.n, got, c.want)
		}
	}
}

// slowLow counts the lowest n bits together, the highest of them below 0.
func slowLow(x int64, n int) int64 {
	sum := int64(0)
	for i := range n {
		if uint64(x)>>i%2 == 0 {
			continue
		}
		if i == n-1 {
			sum -= 1 << i
		} else {
			sum += 1 << i
		}
	}
	return sum
}

// P1.4
func TestLowBitByBit(t *testing.T) {
	for _, u := range spread() {
		for n := 1; n <= 64; n++ {
			if got, want := word.Low(int64(u), n), slowLow(int64(u), n); got != want {
				t.Fatalf("Low(%d, %d): %d, not %d", int64(u), n, got, want)
			}
		}
	}
}

// P1.5
func TestWhatIsPutIsGot(t *testing.T) {
	for _, x := range spread() {
		for n := 1; n <= 8; n++ {
			b := word.Put(x, n)
			want := x << (64 - 8*n) >> (64 - 8*n)
			if got, ok := word.Get(b); len(b) != n || got != want || !ok {
				t.Errorf("Get(Put(%d, %d)): %d, %v, not %d", x, n, got, ok, want)
			}
			if again := word.Put(want, n); !bytes.Equal(again, b) {
				t.Errorf("Put(%d, %d): %x, not %x", want, n, again, b)
			}
		}
	}
}

// P1.5
func TestWhatIsWrittenIsRead(t *testing.T) {
	for _, x := range spread() {
		b := word.Var(x)
		for _, rest := range []string{"", "\x00", "\x01", "\x80", "\xff\xff"} {
			got, n, e := word.ReadVar(append(bytes.Clone(b), rest...))
			if got != x || n != len(b) || e != api.OK {
				t.Errorf("ReadVar(Var(%d) and %x): %d, %d, %v", x, rest, got, n, e)
			}
		}
		for n := range b {
			if _, _, e := word.ReadVar(b[:n]); e != api.ErrShort {
				t.Errorf("ReadVar(%x): %v, not short", b[:n], e)
			}
		}
	}
}

// P1.5
func TestWhatIsReadIsWrittenAgain(t *testing.T) {
	look := func(b []byte) {
		if x, n, e := word.ReadVar(b); e == api.OK && !bytes.Equal(word.Var(x), b[:n]) {
			t.Fatalf("ReadVar(%x): %d, %d; Var(%d): %x", b, x, n, x, word.Var(x))
		}
	}
	for i := range 1 << 16 {
		b := word.Put(uint64(i), 2)
		look(b)
		look(append([]byte(nineFull[:8]), b...))
	}
	for _, x := range spread() {
		look(append(word.Put(x, 8), 0x83, 0x01))
	}
}

// P1.5
func TestWhatIsFoldedIsUnfolded(t *testing.T) {
	for _, u := range spread() {
		if x := int64(u); word.Zag(word.Zig(x)) != x {
			t.Errorf("Zag(Zig(%d)): %d", x, word.Zag(word.Zig(x)))
		}
		if word.Zig(word.Zag(u)) != u {
			t.Errorf("Zig(Zag(%d)): %d", u, word.Zig(word.Zag(u)))
		}
	}
}

// P1.5
func TestTurnedTwice(t *testing.T) {
	for _, x := range []uint32{0, 1, 1 << 31, 0x12345678, 0xdeadbeef, math.MaxUint32} {
		for a := -40; a <= 40; a++ {
			for b := -40; b <= 40; b++ {
				got, want := word.Turn(word.Turn(x, a), b), word.Turn(x, a+b)
				if got != want {
					t.Fatalf("Turn(Turn(%x, %d), %d): %x, not %x", x, a, b, got, want)
				}
			}
		}
	}
}
