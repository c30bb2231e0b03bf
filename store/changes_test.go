package store_test

import (
	"encoding/binary"
	"math"
	"math/rand"
	"regexp"
	"slices"
	"strings"
	"testing"

	"inquest/api"
	"inquest/store"
)

// The limits, as the chapter says them.
const (
	longKey   = 40
	longValue = 4096
	longBatch = 16
	longText  = 1 << 14
)

var key = regexp.MustCompile(`\A[!-~]{1,40}\z`)

// put answers a change that gives a key a value.
func put(key, value string) api.Change { return api.Change{Key: key, Value: []byte(value)} }

// del answers a change that deletes a key.
func del(key string) api.Change { return api.Change{Key: key, Del: true} }

// batch answers a list of changes.
func batch(l ...api.Change) []api.Change { return l }

// checked answers what Check has to answer, as chapter 11 says it.
func checked(l []api.Change) api.Errno {
	if len(l) < 1 || len(l) > longBatch {
		return api.ErrArg
	}
	met := map[string]int{}
	for _, c := range l {
		met[c.Key]++
		for _, f := range []struct {
			is bool
			e  api.Errno
		}{
			{!key.MatchString(c.Key), api.ErrArg},
			{len(c.Value) > longValue, api.ErrBig},
			{c.Del && len(c.Value) != 0, api.ErrArg},
			{met[c.Key] > 1, api.ErrThere},
		} {
			if f.is {
				return f.e
			}
		}
	}
	return api.OK
}

// encoded answers the text of changes, as chapter 11 says it.
func encoded(l []api.Change) string {
	b := binary.AppendUvarint(nil, uint64(len(l)))
	for _, c := range l {
		kind := byte(0)
		if c.Del {
			kind = 1
		}
		b = append(b, kind)
		b = binary.AppendUvarint(b, uint64(len(c.Key)))
		b = append(b, c.Key...)
		if !c.Del {
			b = binary.AppendUvarint(b, uint64(len(c.Value)))
			b = append(b, c.Value...)
		}
	}
	return string(b)
}

// cutter takes numbers and bytes from a text, however they are written.
type cutter struct {
	rest string
	bad  bool
}

func (c *cutter) number() int {
	x, n := binary.Uvarint([]byte(c.rest))
	if n <= 0 || x > uint64(len(c.rest)) {
		c.bad = true
		return 0
	}
	c.rest = c.rest[n:]
	return int(x)
}

func (c *cutter) bytes(n int) string {
	if n > len(c.rest) {
		c.bad = true
		return ""
	}
	s := c.rest[:n]
	c.rest = c.rest[n:]
	return s
}

// decoded answers the changes whose text s is: it reads them somehow, and holds their own text against s.
func decoded(s string) ([]api.Change, bool) {
	cut := cutter{rest: s}
	var l []api.Change
	for n := cut.number(); n > 0 && !cut.bad; n-- {
		c := api.Change{Del: cut.bytes(1) == "\x01"}
		c.Key = cut.bytes(cut.number())
		if !c.Del {
			c.Value = []byte(cut.bytes(cut.number()))
		}
		l = append(l, c)
	}
	return l, !cut.bad && checked(l) == api.OK && encoded(l) == s
}

// same tells whether two lists have the same changes.
func same(a, b []api.Change) bool {
	return slices.EqualFunc(a, b, func(a, b api.Change) bool {
		return a.Key == b.Key && a.Del == b.Del && string(a.Value) == string(b.Value)
	})
}

// must ends the test at an error.
func must(t *testing.T, e api.Errno) {
	t.Helper()
	if e != api.OK {
		t.Fatalf("error %d", e)
	}
}

// want holds an error against the one that is asked for.
func want(t *testing.T, what string, got, asked api.Errno) {
	t.Helper()
	if got != asked {
		t.Errorf("%s: error %d, not %d", what, got, asked)
	}
}

// row answers n bytes, another row for each seed.
func row(n, seed int) string {
	b := make([]byte, n)
	for i := range b {
		b[i] = byte(37*seed + i*i + i>>3)
	}
	return string(b)
}

// name answers a key of n bytes, another one for each seed from 0 to 93.
func name(n, seed int) string { return strings.Repeat("k", n-1) + string(rune('!'+seed)) }

// several answers n changes that can be.
func several(n int) []api.Change {
	var l []api.Change
	for k := range n {
		l = append(l, put(name(1+k%3, k), row(k, k)))
	}
	return l
}

// looked holds Check and Encode against the chapter's words.
func looked(t *testing.T, l []api.Change) api.Errno {
	t.Helper()
	asked := checked(l)
	if e := store.Check(l); e != asked {
		t.Fatalf("Check of %.300q: error %d, not %d", encoded(l), e, asked)
	}
	b, e := store.Encode(l)
	if e != asked || e != api.OK && len(b) != 0 || e == api.OK && string(b) != encoded(l) {
		t.Fatalf("Encode of %.300q: %.300q, error %d, not %d", encoded(l), b, e, asked)
	}
	if e != api.OK {
		return e
	}
	if got, e := store.Decode(b); e != api.OK || !same(got, l) {
		t.Fatalf("Decode of %.300q: %.300q, error %d", b, encoded(got), e)
	}
	return api.OK
}

// read holds Decode against the chapter's words, and tells whether s is a text of changes.
func read(t *testing.T, s string) bool {
	t.Helper()
	asked, ok := decoded(s)
	got, e := store.Decode([]byte(s))
	if ok && (e != api.OK || !same(got, asked)) {
		t.Fatalf("Decode of %.300q: %.300q, error %d", s, encoded(got), e)
	}
	if !ok && (e != api.ErrForm || len(got) != 0) {
		t.Fatalf("Decode of %.300q: %.300q, error %d, not ErrForm", s, encoded(got), e)
	}
	return ok
}

// The chapter's examples of changes.
func TestExampleTexts(t *testing.T) {
	b, e := store.Encode(batch(put("a", "1")))
	if e != api.OK || string(b) != "\x01\x00\x01\x61\x01\x31" {
		t.Errorf("Encode: % x, error %d", b, e)
	}
	want(t, "a and a", store.Check(batch(put("a", ""), put("a", ""))), api.ErrThere)
}

// P11.1: none, one, 16, 17 changes.
func TestCheckCount(t *testing.T) {
	for n, asked := range map[int]api.Errno{0: api.ErrArg, 1: api.OK, 2: api.OK, 15: api.OK, 16: api.OK, 17: api.ErrArg, 18: api.ErrArg, 90: api.ErrArg} {
		l := several(n)
		want(t, "Check", looked(t, l), asked)
		if n <= longBatch {
			continue
		}
		// R2: that they are too many comes ahead of what is wrong in them.
		l[0].Value = make([]byte, longValue+1)
		want(t, "too many, a great one first", looked(t, l), api.ErrArg)
		l[0] = l[1]
		want(t, "too many, one there", looked(t, l), api.ErrArg)
	}
	want(t, "nil", store.Check(nil), api.ErrArg)
	want(t, "empty", store.Check([]api.Change{}), api.ErrArg)
}

// P11.1: keys of all lengths, with all bytes at their ends and in the middle.
func TestCheckKeys(t *testing.T) {
	for n, asked := range map[int]api.Errno{0: api.ErrArg, 1: api.OK, 2: api.OK, 39: api.OK, 40: api.OK, 41: api.ErrArg, 42: api.ErrArg, 127: api.ErrArg, 128: api.ErrArg, 5000: api.ErrArg} {
		k := strings.Repeat("k", n)
		want(t, "put", looked(t, batch(put(k, "v"))), asked)
		want(t, "delete", looked(t, batch(del(k))), asked)
		want(t, "behind another one", looked(t, batch(put("a", ""), put(k, ""))), asked)
	}
	for c := range 256 {
		asked := api.OK
		if c < 33 || c > 126 {
			asked = api.ErrArg
		}
		for _, n := range []int{1, 2, 3, longKey} {
			for _, at := range []int{0, n / 2, n - 1} {
				b := []byte(strings.Repeat("k", n))
				b[at] = byte(c)
				want(t, "put", looked(t, batch(put(string(b), "v"))), asked)
				want(t, "delete", looked(t, batch(del(string(b)))), asked)
			}
		}
	}
}

// P11.1: values of 0, 4096 and 4097 bytes, and changes that delete and have one.
func TestCheckValues(t *testing.T) {
	for n, asked := range map[int][2]api.Errno{
		0: {api.OK, api.OK}, 1: {api.OK, api.ErrArg}, 127: {api.OK, api.ErrArg}, 128: {api.OK, api.ErrArg},
		longValue - 1: {api.OK, api.ErrArg}, longValue: {api.OK, api.ErrArg},
		longValue + 1: {api.ErrBig, api.ErrBig}, longText: {api.ErrBig, api.ErrBig}, 1 << 20: {api.ErrBig, api.ErrBig},
	} {
		c := put("a", row(n, 1))
		want(t, "put", looked(t, batch(c)), asked[0])
		want(t, "put, the last one", looked(t, append(several(longBatch-1), put("z", row(n, 1)))), asked[0])
		c.Del = true
		want(t, "delete", looked(t, batch(c)), asked[1])
		want(t, "delete behind another one", looked(t, batch(put("b", "1"), c)), asked[1])
	}
	want(t, "no value at all", looked(t, batch(api.Change{Key: "a"})), api.OK)
	want(t, "delete, an empty value", looked(t, batch(api.Change{Key: "a", Del: true, Value: []byte{}})), api.OK)
}

// P11.1: a key that a change ahead has.
func TestCheckThere(t *testing.T) {
	for _, one := range batch(put("a", ""), put("a", "1"), del("a")) {
		for _, other := range batch(put("a", ""), put("a", "2"), del("a")) {
			want(t, "side by side", looked(t, batch(one, other)), api.ErrThere)
			for n := range longBatch - 1 {
				l := several(n)
				want(t, "first and last", looked(t, append(append(batch(one), l...), other)), api.ErrThere)
				want(t, "last two", looked(t, append(l, one, other)), api.ErrThere)
			}
		}
	}
	want(t, "one begins the other", looked(t, batch(put("a", ""), put("aa", ""), put("A", ""), del("aaa"))), api.OK)
}

// kinds answers a change of each kind, those that can't be among them.
func kinds() []api.Change {
	great := row(longValue+1, 1)
	return batch(
		put("a", ""), put("a", "1"), put("b", "22"), del("a"), del("b"),
		put("", "1"), put("", great), put("a ", great), del(""), put(strings.Repeat("k", longKey+1), ""),
		put("a", great), put("b", great), put("c", row(longValue, 2)), put(name(longKey, 1), row(300, 3)),
		api.Change{Key: "a", Del: true, Value: []byte("1")}, api.Change{Key: "b", Del: true, Value: []byte(great)},
		api.Change{Key: "\x7f", Del: true, Value: []byte("1")},
	)
}

// P11.1, P11.2, R2: all rows of up to three changes, so that every two errors meet, within one change and over several.
func TestCheckAllRows(t *testing.T) {
	of := kinds()
	told := map[api.Errno]int{}
	for _, a := range of {
		told[looked(t, batch(a))]++
		for _, b := range of {
			told[looked(t, batch(a, b))]++
			for _, c := range of {
				told[looked(t, batch(a, b, c))]++
			}
		}
	}
	for _, e := range []api.Errno{api.OK, api.ErrArg, api.ErrBig, api.ErrThere} {
		if told[e] < 100 {
			t.Errorf("error %d: %d times", e, told[e])
		}
	}
}

// texts answers texts of changes of all kinds.
func texts() []string {
	var all []string
	for _, l := range [][]api.Change{
		batch(put("a", "1")), batch(put("a", "")), batch(del("a")), several(2), several(longBatch),
		batch(del("a"), put("b", "22"), del("c"), put("~", "")),
		batch(put(name(longKey, 3), row(127, 1)), put("b", row(128, 2))),
		batch(put("a", row(300, 3)), del(name(longKey, 0))),
	} {
		all = append(all, encoded(l))
	}
	return all
}

// P11.2: Encode byte by byte, written out.
func TestEncodeWrittenOut(t *testing.T) {
	for _, c := range []struct {
		l     []api.Change
		asked string
	}{
		{batch(put("a", "")), "\x01\x00\x01a\x00"},
		{batch(del("a")), "\x01\x01\x01a"},
		{batch(put("a", "1"), del("bc"), put("~!", "xyz")), "\x03\x00\x01a\x011\x01\x02bc\x00\x02~!\x03xyz"},
		{batch(put("a", row(127, 1))), "\x01\x00\x01a\x7f" + row(127, 1)},
		{batch(put("a", row(128, 1))), "\x01\x00\x01a\x80\x01" + row(128, 1)},
		{batch(put("a", row(longValue, 1)), del(name(longKey, 0))), "\x02\x00\x01a\x80\x20" + row(longValue, 1) + "\x01\x28" + name(longKey, 0)},
	} {
		b, e := store.Encode(c.l)
		if e != api.OK || string(b) != c.asked {
			t.Errorf("Encode: %.100q, not %.100q, error %d", b, c.asked, e)
		}
		if l, e := store.Decode([]byte(c.asked)); e != api.OK || !same(l, c.l) {
			t.Errorf("Decode of %.100q: %.100q, error %d", c.asked, encoded(l), e)
		}
	}
}

// P11.2: the greatest text of changes is longer than a frame's.
func TestEncodeGreatest(t *testing.T) {
	var l []api.Change
	for k := range longBatch {
		l = append(l, put(name(longKey, k), row(longValue, k)))
	}
	want(t, "the greatest changes", looked(t, l), api.OK)
	if n := len(encoded(l)); n != 1+longBatch*(1+1+longKey+2+longValue) || n <= longText {
		t.Errorf("%d bytes", n)
	}
}

// P11.2: texts cut off, with bytes behind them, with a byte changed.
func TestDecodeSpoilt(t *testing.T) {
	took := 0
	for _, s := range texts() {
		if !read(t, s) {
			t.Fatalf("%q is no text of changes", s)
		}
		for n := range len(s) {
			if read(t, s[:n]) {
				t.Fatalf("%q, cut off at %d, is one", s, n)
			}
		}
		for c := range 256 {
			if read(t, s+string([]byte{byte(c)})) {
				t.Fatalf("%q with %d behind it is one", s, c)
			}
			for at := range min(len(s), 150) {
				b := []byte(s)
				if b[at] = byte(c); string(b) != s && read(t, string(b)) {
					took++
				}
			}
		}
		for _, more := range []string{s, "\x00\x00", "\x00\x01a\x00", "\x01\x01a"} {
			if read(t, s+more) {
				t.Fatalf("%q with %q behind it is one", s, more)
			}
		}
	}
	if took < 1000 {
		t.Errorf("a byte changed, and still a text of changes: %d", took)
	}
}

// P11.2: what is no text of changes.
func TestDecodeRefused(t *testing.T) {
	last := strings.Repeat("\xff", 9)
	for _, s := range []string{
		"", "\x00", "\x00\x00", "\x80", "\x80\x00", "\xff", "\x01", "\x02",
		"\x81\x00\x00\x01a\x00",                              // a count that is not written shortest
		"\x81\x80\x00\x00\x01a\x00",                          // and so
		"\x01\x00\x81\x00a\x00",                              // a key's length
		"\x01\x00\x01a\x80\x00",                              // a value's length
		"\x01\x00\x01a\x81\x00b",                             // and so
		"\x01\x01\x81\x00a",                                  // a deleted key's
		"\x02\x00\x01a\x00\x01\x81\x00b",                     // in the second change
		"\x02\x00\x01a\x00",                                  // one of two
		"\x01\x00\x01a\x00\x00\x01b\x00",                     // two of one
		"\x00\x00\x01a\x00",                                  // one of none
		"\x01\x02\x01a\x00",                                  // a kind that is none
		"\x01\x80\x01a\x00",                                  // and so
		"\x01\xff\x01a",                                      // and so
		"\x01\x01\x01a\x00",                                  // one that deletes, and a value of no bytes
		"\x01\x01\x01a\x011",                                 // and a value
		"\x01\x00\x01a",                                      // no value
		"\x01\x00\x00\x00",                                   // no key
		"\x01\x01\x00",                                       // and so
		"\x01\x00\x01 \x00",                                  // a key that is none
		"\x01\x00\x01\x7f\x00",                               // and so
		"\x01\x00\x03a\x20b\x00",                             // and so
		"\x01\x01\x01\x80",                                   // and so
		"\x02\x00\x01a\x00\x00\x01a\x00",                     // the same key twice
		"\x02\x01\x01a\x01\x01a",                             // and so
		"\x02\x00\x01a\x00\x01\x01a",                         // and so
		last + "\x01\x00\x01a\x00",                           // a count of 2^64 - 1
		last + "\x02\x00\x01a\x00",                           // a count beyond that
		"\x01\x00" + last + "\x01a\x00",                      // a key's length of 2^64 - 1
		"\x01\x00\x01a" + last + "\x01b",                     // a value's
		"\x01\x00\x01a" + last + "\x02b",                     // a value's beyond that
		"\x01\x01" + last + "\x00a",                          // a length that is not written shortest
		"\x01\x00\x80\x80\x80\x80\x08a\x00",                  // of 2^31
		"\x01\x00\x01a\xff\xff\xff\xff\xff\xff\xff\xff\x7fb", // of 2^63 - 1
		"\x01\x00\x29" + strings.Repeat("k", longKey+1) + "\x00",
		"\x01\x01\x29" + strings.Repeat("k", longKey+1),
		"\x01\x00\x01a\x81\x20" + row(longValue+1, 1),
		"\x01\x01\x01a\x81\x20" + row(longValue+1, 1),
		encoded(several(longBatch + 1)), encoded(several(longBatch + 2)), encoded(several(90)),
	} {
		if read(t, s) {
			t.Errorf("%q is taken for a text of changes", s)
		}
	}
	if l, e := store.Decode(nil); e != api.ErrForm || len(l) != 0 {
		t.Errorf("Decode of nil: %d changes, error %d", len(l), e)
	}
}

// P11.2: all short texts of some bytes.
func TestDecodeAllShort(t *testing.T) {
	took := 0
	of := "\x00\x01\x02\x03a\x80\x20"
	for n := range 8 {
		for set := range int(math.Pow(float64(len(of)), float64(n))) {
			b := make([]byte, n)
			for k, rest := 0, set; k < n; k++ {
				b[k] = of[rest%len(of)]
				rest /= len(of)
			}
			if read(t, string(b)) {
				took++
			}
		}
	}
	// a with no, one and two bytes of value, aa with no and one, aaa with none, and a, aa and aaa deleted.
	if asked := 1 + 7 + 49 + 1 + 7 + 1 + 3; took != asked {
		t.Errorf("%d texts of changes, not %d", took, asked)
	}
}

// P11.2: what is read by chance.
func TestDecodeByChance(t *testing.T) {
	by := rand.New(rand.NewSource(2))
	took := 0
	for range 20000 {
		var l []api.Change
		for range 1 + by.Intn(4) {
			c := put(name(1+by.Intn(42), by.Intn(94)), row(by.Intn(1+by.Intn(200)), by.Intn(9)))
			if by.Intn(3) == 0 {
				c = del(c.Key)
			}
			l = append(l, c)
		}
		looked(t, l)
		b := []byte(encoded(l))
		for range by.Intn(3) {
			b[by.Intn(len(b))] = byte(by.Intn(256) >> by.Intn(8))
		}
		if read(t, string(b)) {
			took++
		}
	}
	if took < 5000 {
		t.Errorf("%d texts of changes", took)
	}
}

// roomy answers changes whose lists and values have bytes behind their ends, and a function that tells whether all is as it was.
func roomy(l []api.Change) ([]api.Change, func() bool) {
	var bufs [][]byte
	whole := slices.Clone(l)
	for k, c := range whole {
		buf := append(slices.Clone(c.Value), "behind it"...)
		bufs = append(bufs, buf)
		whole[k].Value = buf[:len(c.Value)]
	}
	whole = append(whole, put("behind", "it"), del("them"))
	return whole[:len(l)], func() bool {
		ok := same(whole, append(slices.Clone(l), put("behind", "it"), del("them")))
		for k, c := range l {
			ok = ok && string(bufs[k]) == string(c.Value)+"behind it"
		}
		return ok
	}
}

// R3: Check, Encode and Decode change nothing that they are handed.
func TestChangesHandedIn(t *testing.T) {
	lists := [][]api.Change{nil, several(3), several(longBatch), several(longBatch + 1), kinds()[:5]}
	for _, c := range kinds() {
		lists = append(lists, batch(c), batch(put("x", "y"), c))
	}
	for _, l := range lists {
		handed, intact := roomy(l)
		e := store.Check(handed)
		b, f := store.Encode(handed)
		if e != f || !intact() {
			t.Fatalf("%.200q was changed", encoded(l))
		}
		for _, c := range handed {
			for i := range c.Value {
				c.Value[i]++
			}
		}
		if e == api.OK && string(b) != encoded(l) {
			t.Error("what Encode answered is the list's")
		}
	}
	for _, s := range append(texts(), "\x01\x00", "\x03\x00\x01a\x011") {
		whole := []byte(s + "behind it")
		l, e := store.Decode(whole[:len(s)])
		if string(whole) != s+"behind it" {
			t.Fatal("Decode changed what it was handed")
		}
		for k := range whole {
			whole[k]++
		}
		if asked, _ := decoded(s); e == api.OK && !same(l, asked) {
			t.Error("what Decode answered is the text's")
		}
	}
}

// R3: what Encode and Decode answer is nobody else's.
func TestTextsAreNew(t *testing.T) {
	for _, s := range texts() {
		asked, _ := decoded(s)
		one, _ := store.Decode([]byte(s))
		other, _ := store.Decode([]byte(s))
		for k, c := range one {
			for i := range c.Value {
				c.Value[i]++
			}
			one[k].Value = append(c.Value, "more and more"...)
			one[k].Key = "other"
		}
		if !same(other, asked) {
			t.Error("two answers share memory")
		}
		for k, c := range other {
			_ = append(c.Value, "more and more"...)
			if !same(other, asked) {
				t.Fatalf("two values of one answer share memory: %d", k)
			}
		}
		b, _ := store.Encode(asked)
		d, _ := store.Encode(asked)
		for k := range b {
			b[k]++
		}
		if string(d) != s || !same(asked, other) {
			t.Error("two texts share memory")
		}
	}
}
