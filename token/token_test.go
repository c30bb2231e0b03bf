package token_test

import (
	"bytes"
	"crypto/hmac"
	"crypto/sha256"
	"encoding/hex"
	"math"
	"math/big"
	"regexp"
	"slices"
	"strconv"
	"strings"
	"testing"

	"inquest/api"
	"inquest/token"
)

const maxTime = 1099511627776 // 2^40, written out: what api says is held against it

var (
	someNames = []string{"a", "z", "a-1", "b2", "c-", "d--e", "x0123456789", "abcdefghijklmno", "abcdefghijklmnop", "a--------------9"}
	noNames   = []string{
		"", "abcdefghijklmnopq", strings.Repeat("a", 100), "A", "aB", "Ab", "1", "1a", "0", "-", "-a", ".", "a.", ".a", "a.b",
		"a_b", "a b", " a", "a ", "a\n", "\na", "a\x00", "\x00", "é", "aé", "a\xff", "ａ", "a/b", "a{", "a`", "a:", "a@",
	}
	someTimes = []int{0, 1, 5, 9, 10, 99, 100, 1 << 31, 1<<32 + 1, maxTime - 1, maxTime}
	noTimes   = []int{-1, -2, -5, math.MinInt, math.MinInt + 1, -maxTime, maxTime + 1, maxTime + 2, 1 << 41, 1 << 62, math.MaxInt}
	keySizes  = []int{0, 1, 3, 31, 32, 33, 63, 64, 65, 66, 128, 300}
)

// row answers n bytes of all values, another row for each seed.
func row(n, seed int) []byte {
	b := make([]byte, n)
	for i := range b {
		b[i] = byte(37*seed + i*i + i>>3)
	}
	return b
}

// changedAt answers a text with another byte at one place.
func changedAt(s string, at int, c byte) string {
	return s[:at] + string([]byte{c}) + s[at+1:]
}

// letters answers the sum of a text by a key in letters, by the library's HMAC.
func letters(key []byte, text string) string {
	h := hmac.New(sha256.New, key)
	h.Write([]byte(text))
	return hex.EncodeToString(h.Sum(nil))
}

// signed answers a claim with its sum behind it, whatever the claim is: so its sum is never what is wrong with it.
func signed(key []byte, claim string) string { return claim + "." + letters(key, claim) }

// libToken answers the token of a key, a name and a time, by the library alone.
func libToken(key []byte, name string, expiry int) string {
	return signed(key, name+"."+strconv.Itoa(expiry))
}

var tokenForm = regexp.MustCompile(`\A([a-z][a-z0-9-]{0,15})\.(0|[1-9][0-9]*)\.([0-9a-f]{64})\z`)

// libClaim does what Claim must do by the library alone.
func libClaim(s string) (api.Pass, api.Errno) {
	m := tokenForm.FindStringSubmatch(s)
	if m == nil {
		return api.Pass{}, api.ErrForm
	}
	n, ok := new(big.Int).SetString(m[2], 10)
	if !ok || n.Cmp(big.NewInt(maxTime)) > 0 {
		return api.Pass{}, api.ErrForm
	}
	return api.Pass{Name: m[1], Expiry: int(n.Int64())}, api.OK
}

// libOpen does what Open must do by the library alone.
func libOpen(key []byte, s string, now int) (api.Pass, api.Errno) {
	pass, err := libClaim(s)
	switch {
	case err != api.OK:
		return api.Pass{}, err
	case libToken(key, pass.Name, pass.Expiry) != s:
		return api.Pass{}, api.ErrSign
	case now >= pass.Expiry:
		return api.Pass{}, api.ErrExpired
	}
	return pass, api.OK
}

// opens asks that Open answers this.
func opens(t *testing.T, key []byte, s string, now int, want api.Pass, wantErr api.Errno) {
	t.Helper()
	if got, err := token.Open(key, s, now); got != want || err != wantErr {
		t.Errorf("Open(%x, %q, %d): %v, %d, not %v, %d", key, s, now, got, err, want, wantErr)
	}
}

// claims asks that Claim answers this.
func claims(t *testing.T, s string, want api.Pass, wantErr api.Errno) {
	t.Helper()
	if got, err := token.Claim(s); got != want || err != wantErr {
		t.Errorf("Claim(%q): %v, %d, not %v, %d", s, got, err, want, wantErr)
	}
}

// noToken asks that a text has not a token's form, for Open and for Claim, whatever the time.
func noToken(t *testing.T, key []byte, s string) {
	t.Helper()
	for _, now := range []int{math.MinInt, -1, 0, 4, math.MaxInt} {
		opens(t, key, s, now, api.Pass{}, api.ErrForm)
	}
	claims(t, s, api.Pass{}, api.ErrForm)
}

// refuses asks that Mint answers nothing and ErrArg.
func refuses(t *testing.T, key []byte, name string, expiry int) {
	t.Helper()
	if s, err := token.Mint(key, name, expiry); s != "" || err != api.ErrArg {
		t.Errorf("Mint(%x, %q, %d): %q, %d", key, name, expiry, s, err)
	}
}

// P5.1, P5.2, P5.3: the chapter's examples.
func TestExamples(t *testing.T) {
	k := []byte("key")
	s, err := token.Mint(k, "a", 5)
	if s != "a.5.8bf3863313914b2020118cfff804bc4e09c05c6087b5014de6bfe4bce68abce5" || err != api.OK {
		t.Errorf("Mint: %q, %d", s, err)
	}
	opens(t, k, s, 4, api.Pass{Name: "a", Expiry: 5}, api.OK)
	opens(t, k, s, 5, api.Pass{}, api.ErrExpired)
	opens(t, []byte("another"), s, 4, api.Pass{}, api.ErrSign)
	opens(t, k, "a.5", 4, api.Pass{}, api.ErrForm)
	opens(t, k, "a.05"+s[3:], 4, api.Pass{}, api.ErrForm)
	opens(t, k, signed(k, "a.05"), 4, api.Pass{}, api.ErrForm)
	claims(t, s, api.Pass{Name: "a", Expiry: 5}, api.OK)
}

// P5.1: tokens that were worked out elsewhere, at the edges of names, times and keys.
func TestMintOfWrittenTokens(t *testing.T) {
	counted := make([]byte, 65)
	for i := range counted {
		counted[i] = byte(i)
	}
	for _, c := range []struct {
		key    []byte
		name   string
		expiry int
		want   string
	}{
		{nil, "a", 0, "a.0.07eaa368c967553b080be107222a2c2c13cde7385c8c84c42eac3d53bc13335a"},
		{[]byte("key"), "a-1", maxTime, "a-1.1099511627776.a95be238afc3737f82d5389fa239a0c40bba5fbc226cc98331e48abdb11dd5c0"},
		{counted[:64], "abcdefghijklmnop", 0, "abcdefghijklmnop.0.ce616ed55a2b5c2fb3ad76d6a84af8f7bd0d85c93f07a5d92012bde5b6d534cf"},
		{counted, "z9-", 12, "z9-.12.2ca783181b5a7b62f10028338e859b76ad6692b134c7ef6706d4d1b4537a9b7e"},
	} {
		if s, err := token.Mint(c.key, c.name, c.expiry); s != c.want || err != api.OK {
			t.Errorf("Mint(%x, %q, %d): %q, %d", c.key, c.name, c.expiry, s, err)
		}
	}
}

// P5.1, P5.2
func TestMintAndOpenOfAllEdges(t *testing.T) {
	seen := map[string]int{}
	for _, k := range keySizes {
		key := row(k, k+1)
		for _, name := range someNames {
			for _, expiry := range someTimes {
				s, err := token.Mint(key, name, expiry)
				if want := libToken(key, name, expiry); s != want || err != api.OK {
					t.Errorf("Mint(%x, %q, %d): %q, %d, not %q", key, name, expiry, s, err, want)
				}
				seen[s]++
				pass := api.Pass{Name: name, Expiry: expiry}
				opens(t, key, s, expiry-1, pass, api.OK)
				opens(t, key, s, expiry, api.Pass{}, api.ErrExpired)
				claims(t, s, pass, api.OK)
			}
		}
	}
	if want := len(keySizes) * len(someNames) * len(someTimes); len(seen) != want {
		t.Errorf("%d tokens, not %d", len(seen), want)
	}
}

// P5.1: names that are none, with times that are some and that are none.
func TestMintRefusesNames(t *testing.T) {
	for _, name := range noNames {
		for _, expiry := range slices.Concat(noTimes, someTimes) {
			refuses(t, []byte("key"), name, expiry)
			refuses(t, nil, name, expiry)
		}
	}
}

// P5.1: times that are none, by keys of all sizes.
func TestMintRefusesTimes(t *testing.T) {
	for _, expiry := range noTimes {
		for _, name := range someNames {
			for _, k := range keySizes {
				refuses(t, row(k, 2), name, expiry)
			}
		}
	}
}

// P5.1, P5.2: each byte at each place of a name.
func TestEachByteOfAName(t *testing.T) {
	key := []byte("key")
	for _, name := range []string{"a", "ab", "abc", "abcdefghijklmnop"} {
		for at := range len(name) {
			for c := range 256 {
				changed := changedAt(name, at, byte(c))
				small, other := 'a' <= c && c <= 'z', '0' <= c && c <= '9' || c == '-'
				if small || other && at > 0 {
					s, err := token.Mint(key, changed, 7)
					if s != libToken(key, changed, 7) || err != api.OK {
						t.Errorf("Mint of %q: %q, %d", changed, s, err)
					}
					opens(t, key, s, 6, api.Pass{Name: changed, Expiry: 7}, api.OK)
				} else {
					refuses(t, key, changed, 7)
					noToken(t, key, libToken(key, changed, 7))
				}
			}
		}
	}
}

// P5.1: nil and empty keys are alike (R3).
func TestNoKey(t *testing.T) {
	for _, key := range [][]byte{nil, {}} {
		s, err := token.Mint(key, "a", 5)
		if s != libToken(nil, "a", 5) || err != api.OK {
			t.Errorf("Mint by %#v: %q, %d", key, s, err)
		}
		opens(t, nil, s, 4, api.Pass{Name: "a", Expiry: 5}, api.OK)
		opens(t, []byte{}, s, 4, api.Pass{Name: "a", Expiry: 5}, api.OK)
	}
}

// P5.2: more and fewer points than two, and pieces that are empty; each text also with a sum of its own behind it.
func TestWrongPieces(t *testing.T) {
	key := []byte("key")
	sum := letters(key, "a.5")
	for _, s := range []string{
		"", "a", "a5", ".", "..", "...", "....", strings.Repeat(".", 1000),
		"a5." + sum, "a." + sum, "5." + sum, sum, "." + sum, sum + ".", "a.5" + sum, "a5" + sum,
		".5." + sum, "a.." + sum, "a.5.", "a..", ".5.", ".." + sum,
		".a.5." + sum, "a..5." + sum, "a.5.." + sum, "a.5." + sum + ".", "a.5." + sum + "..",
		"a.5." + sum + "." + sum, "a.5.0." + sum, "a.a.5." + sum, "a.5.5." + sum, "a.5." + sum[:32] + "." + sum[32:],
		"5.a." + sum, "a." + sum + ".5", sum + ".5.a", sum + ".a.5",
		" a.5." + sum, "a.5." + sum + " ", "a .5." + sum, "a. 5." + sum, "a.5 ." + sum, "a.5. " + sum,
		"a.5." + sum + "\n", "\na.5." + sum, "a.5." + sum + "\x00", "a.5." + sum + "a.5." + sum,
		"a,5," + sum, "a:5:" + sum, "a/5/" + sum, "a.5," + sum, "a,5." + sum,
	} {
		noToken(t, key, s)
		noToken(t, key, signed(key, s))
	}
	noToken(t, key, "a.5")
	noToken(t, key, "a.5."+strings.Repeat(sum, 1000))
	noToken(t, key, strings.Repeat("a.5.", 50000)+sum)
}

// P5.2: names that are none.
func TestWrongNames(t *testing.T) {
	key := []byte("key")
	for _, name := range noNames {
		for _, expiry := range []int{0, 5, maxTime} {
			noToken(t, key, libToken(key, name, expiry))
		}
	}
}

// P5.2: times that are none.
func TestWrongTimes(t *testing.T) {
	key := []byte("key")
	for _, time := range []string{
		"", "05", "00", "000", "01", "00000000000005", "+5", "-5", "+0", "-0", "-1", "--5", "5-", "5+",
		" 5", "5 ", "5\n", "\n5", "5\x00", "\x005", "5a", "a5", "a", "0x5", "5e0", "1e3", "1_000", "1,000", "٥", "５", "5/", "5:",
		"1099511627777", "1099511627778", "1099511627780", "01099511627776", "2199023255552", "9999999999999", "10995116277760",
		"9223372036854775807", "9223372036854775808", "9223372036854775813", "18446744073709551615", "18446744073709551616",
		"18446744073709551621", "36893488147419103237", "340282366920938463463374607431768211461", strings.Repeat("9", 1000), strings.Repeat("0", 1000),
	} {
		noToken(t, key, signed(key, "a."+time))
	}
	// Just within.
	for _, time := range []string{"0", "9", "10", "1099511627775", "1099511627776"} {
		n, err := strconv.Atoi(time)
		if err != nil {
			t.Fatal(err)
		}
		opens(t, key, signed(key, "a."+time), n-1, api.Pass{Name: "a", Expiry: n}, api.OK)
	}
}

// P5.2: more and fewer letters than 64, capitals, and letters that are none.
func TestWrongLetters(t *testing.T) {
	key := []byte("key")
	sum := letters(key, "a.5")
	for n := range len(sum) {
		noToken(t, key, "a.5."+sum[:n])
		noToken(t, key, "a.5."+sum[len(sum)-n:])
	}
	for _, s := range []string{
		"", sum[1:], sum[:63], sum[2:], sum[:62], sum + "0", "0" + sum, sum + "00", "00" + sum, sum + sum,
		sum[:32] + "0" + sum[32:], sum[:32] + sum[33:], strings.ToUpper(sum), strings.Repeat("F", 64), strings.Repeat("g", 64),
		strings.Repeat(" ", 64), strings.Repeat("\x00", 64), strings.Repeat("é", 32), strings.Repeat("0", 63), strings.Repeat("0", 65), strings.Repeat("0", 66),
		strings.Repeat("0", 128), "0x" + sum[2:], "0x" + sum, sum[:63] + "\n", sum[:63] + "=",
	} {
		noToken(t, key, "a.5."+s)
	}
	for at := range len(sum) {
		if up := strings.ToUpper(sum[at : at+1]); up != sum[at:at+1] {
			noToken(t, key, "a.5."+changedAt(sum, at, up[0]))
		}
		for _, c := range []byte("gGzZ/:@`{ -\x00\xff") {
			noToken(t, key, "a.5."+changedAt(sum, at, c))
		}
	}
}

// P5.2: which error comes first.
func TestFirstError(t *testing.T) {
	key, other := []byte("key"), []byte("other")
	right, wrong := libToken(key, "a", 5), libToken(other, "a", 5)
	for _, c := range []struct {
		s    string
		now  int
		want api.Errno
	}{
		{right, 4, api.OK},
		{right, 5, api.ErrExpired},
		{right, 6, api.ErrExpired},
		{wrong, 4, api.ErrSign},
		{wrong, 5, api.ErrSign},
		{wrong, 6, api.ErrSign},
		{"A" + right[1:], 4, api.ErrForm},
		{"A" + wrong[1:], 4, api.ErrForm},
		{"A" + wrong[1:], 6, api.ErrForm},
		{signed(key, "a.05"), 6, api.ErrForm},
		{signed(other, "a.05"), 6, api.ErrForm},
		{signed(key, "a.1099511627777"), math.MaxInt, api.ErrForm},
		{signed(other, "a.1099511627777"), math.MaxInt, api.ErrForm},
		{right[:67], 6, api.ErrForm},
		{wrong[:67], 6, api.ErrForm},
	} {
		want := api.Pass{}
		if c.want == api.OK {
			want = api.Pass{Name: "a", Expiry: 5}
		}
		opens(t, key, c.s, c.now, want, c.want)
	}
}

// P5.2, P5.3: each byte of a token as each other one, ahead of its time and behind it.
func TestEachByteOfATokenChanged(t *testing.T) {
	key := []byte("key")
	for _, s := range []string{libToken(key, "a", 5), libToken(key, "b-2", 1234567), libToken(key, "abcdefghijklmnop", maxTime)} {
		for at := range len(s) {
			for c := range 256 {
				changed := changedAt(s, at, byte(c))
				for _, now := range []int{-1, 4, maxTime} {
					want, wantErr := libOpen(key, changed, now)
					if changed != s && wantErr != api.ErrForm && wantErr != api.ErrSign {
						t.Fatalf("%q, one byte off %q, is told %d", changed, s, wantErr)
					}
					opens(t, key, changed, now, want, wantErr)
				}
				want, wantErr := libClaim(changed)
				claims(t, changed, want, wantErr)
			}
		}
	}
}

// P5.2: a byte too few and a byte too many, at each place.
func TestTokensCutAndStretched(t *testing.T) {
	key := []byte("key")
	s := libToken(key, "ab-9", 105)
	for at := range len(s) + 1 {
		texts := []string{s[:at], s[at:]}
		if at < len(s) {
			texts = append(texts, s[:at]+s[at+1:])
		}
		for _, c := range []byte("0159abfgAF.-+ \n\x00\xff") {
			texts = append(texts, s[:at]+string([]byte{c})+s[at:])
		}
		for _, changed := range texts {
			want, wantErr := libOpen(key, changed, 0)
			opens(t, key, changed, 0, want, wantErr)
			want, wantErr = libClaim(changed)
			claims(t, changed, want, wantErr)
		}
	}
}

// P5.2, P5.3: times ahead of, at and behind the token's time, and below 0.
func TestTimesOfOpen(t *testing.T) {
	key := []byte("key")
	for _, expiry := range someTimes {
		s := libToken(key, "a", expiry)
		for _, now := range []int{
			math.MinInt, math.MinInt + 1, -maxTime, -6, -1, 0, 1, 4, 5, 6, 100, 1 << 31, 1 << 32, expiry - 2, expiry - 1,
			expiry, expiry + 1, expiry + 2, maxTime, maxTime + 1, math.MaxInt - 1, math.MaxInt,
		} {
			if now < expiry {
				opens(t, key, s, now, api.Pass{Name: "a", Expiry: expiry}, api.OK)
			} else {
				opens(t, key, s, now, api.Pass{}, api.ErrExpired)
			}
		}
	}
}

// P5.2: each key opens its own tokens alone.
func TestOtherKeys(t *testing.T) {
	var keys [][]byte
	for _, k := range keySizes {
		keys = append(keys, row(k, 3))
		if k > 0 {
			last := row(k, 3)
			last[k-1]++
			keys = append(keys, last)
		}
	}
	for i, mine := range keys {
		s := libToken(mine, "a", 5)
		for j, theirs := range keys {
			if i == j {
				opens(t, theirs, s, 4, api.Pass{Name: "a", Expiry: 5}, api.OK)
			} else {
				opens(t, theirs, s, 4, api.Pass{}, api.ErrSign)
				opens(t, theirs, s, 5, api.Pass{}, api.ErrSign)
			}
		}
	}
}

// P5.2: a sum of another text by the right key is no sign.
func TestSumsOfOtherTexts(t *testing.T) {
	key := []byte("key")
	plain := sha256.Sum256([]byte("a.5"))
	for _, sum := range []string{
		letters(key, ""), letters(key, "a"), letters(key, "5"), letters(key, "a5"), letters(key, "a.5."), letters(key, ".a.5"), letters(key, "a.05"),
		letters(key, "a.6"), letters(key, "b.5"), letters(key, "a5."), letters(key, "a:5"), letters([]byte("a.5"), "key"),
		hex.EncodeToString(plain[:]), strings.Repeat("0", 64), strings.Repeat("f", 64),
	} {
		opens(t, key, "a.5."+sum, 4, api.Pass{}, api.ErrSign)
		claims(t, "a.5."+sum, api.Pass{Name: "a", Expiry: 5}, api.OK)
	}
}

// P5.2: Claim takes each name, each time and each sum.
func TestClaimOfAnySum(t *testing.T) {
	for _, name := range someNames {
		for _, expiry := range someTimes {
			claim := name + "." + strconv.Itoa(expiry)
			for _, sum := range []string{strings.Repeat("0", 64), strings.Repeat("f", 64), strings.Repeat("0123456789abcdef", 4), letters(nil, "")} {
				claims(t, claim+"."+sum, api.Pass{Name: name, Expiry: expiry}, api.OK)
			}
		}
	}
}

// P5.3: of all texts near tokens, those that are opened are what Mint answers, and no others.
func TestWhatIsOpenedWasMinted(t *testing.T) {
	key := []byte("key")
	opened := 0
	for _, name := range slices.Concat(noNames, someNames) {
		for _, time := range []string{"", "0", "00", "5", "05", "+5", "-5", "1099511627776", "1099511627777", "9223372036854775808"} {
			for _, by := range []string{"key", "ke", ""} {
				s := signed([]byte(by), name+"."+time)
				want, wantErr := libOpen(key, s, -1)
				opens(t, key, s, -1, want, wantErr)
				pass, err := token.Open(key, s, -1)
				if err != api.OK {
					continue
				}
				opened++
				if again, err := token.Mint(key, pass.Name, pass.Expiry); again != s || err != api.OK {
					t.Errorf("%q is opened, but Mint answers %q, %d", s, again, err)
				}
			}
		}
	}
	if want := 3 * len(someNames); opened != want {
		t.Errorf("%d texts are opened, not %d", opened, want)
	}
}

// P5.1, P5.2 (R3, R4): neither the key nor the memory behind it is changed, and no answer hangs on it afterwards.
func TestKeysStayAndAreNotKept(t *testing.T) {
	for _, k := range keySizes {
		whole := row(k+200, 4)
		key := whole[:k]
		s, err := token.Mint(key, "a", 5)
		if err != api.OK {
			t.Fatal(err)
		}
		token.Mint(key, "A", 5)
		pass, err := token.Open(key, s, 4)
		if err != api.OK {
			t.Fatal(err)
		}
		token.Open(key, s, 5)
		token.Open(key, s[1:], 5)
		if !bytes.Equal(whole, row(k+200, 4)) {
			t.Errorf("a key of %d bytes was changed", k)
		}
		for i := range whole {
			whole[i]++
		}
		if s != libToken(row(k, 4), "a", 5) || pass != (api.Pass{Name: "a", Expiry: 5}) {
			t.Errorf("a key of %d bytes: an answer hangs on it still", k)
		}
		if again, err := token.Mint(key, "a", 5); again != libToken(key, "a", 5) || err != api.OK {
			t.Errorf("a key of %d bytes, changed: %q, %d", k, again, err)
		}
	}
}

// P5.1, P5.2 (R4): what was answered does not hang on calls ahead.
func TestCallsKnowNothingOfOneAnother(t *testing.T) {
	a, b := []byte("key"), []byte("other")
	first := libToken(a, "a", 5)
	for range 3 {
		if s, err := token.Mint(a, "a", 5); s != first || err != api.OK {
			t.Errorf("Mint: %q, %d", s, err)
		}
		opens(t, a, first, 5, api.Pass{}, api.ErrExpired)
		opens(t, a, first, 4, api.Pass{Name: "a", Expiry: 5}, api.OK)
		opens(t, b, first, 4, api.Pass{}, api.ErrSign)
		claims(t, "", api.Pass{}, api.ErrForm)
		claims(t, first, api.Pass{Name: "a", Expiry: 5}, api.OK)
		refuses(t, a, "", 5)
	}
}
