package store_test

import (
	"bytes"
	"maps"
	"math"
	"math/rand"
	"slices"
	"strings"
	"testing"

	"inquest/api"
	"inquest/disk"
	"inquest/store"
	"inquest/wal"
)

const wide = 64 // bytes of a sector, as the chapters say it

// held is what a store holds.
type held map[string]string

// behind answers what is held behind changes.
func (h held) behind(l []api.Change) held {
	then := held{}
	maps.Copy(then, h)
	for _, c := range l {
		delete(then, c.Key)
		if !c.Del {
			then[c.Key] = string(c.Value)
		}
	}
	return then
}

// used answers how many bytes keys and values have.
func (h held) used() int {
	n := 0
	for key, value := range h {
		n += len(key + value)
	}
	return n
}

// scan answers what Scan has to answer, as chapter 11 says it.
func (h held) scan(front, after string, most int) []string {
	var l []string
	for _, key := range slices.SortedFunc(maps.Keys(h), func(a, b string) int { return bytes.Compare([]byte(a), []byte(b)) }) {
		if len(l) < most && len(key) >= len(front) && key[:len(front)] == front && bytes.Compare([]byte(key), []byte(after)) > 0 {
			l = append(l, key)
		}
	}
	return l
}

// sectors answers how many sectors a text takes in a log, as chapters 8 and 10 say it.
func sectors(text string) int { return (len(text) + 20 + wide - 1) / wide }

// room answers how long a text may be that goes into so many sectors.
func room(left int) int { return max(min(left*wide-20, longText), -1) }

// blank answers a new disk.
func blank(t *testing.T, sectors int) *disk.Disk {
	t.Helper()
	d, e := disk.New(sectors)
	must(t, e)
	return d
}

// all answers a disk's bytes.
func all(t *testing.T, d *disk.Disk) string {
	t.Helper()
	var s strings.Builder
	for at := range d.Sectors() {
		b, e := d.Read(at)
		must(t, e)
		s.Write(b)
	}
	return s.String()
}

// laid answers a disk with these bytes, all of them fast.
func laid(t *testing.T, s string) *disk.Disk {
	t.Helper()
	d := blank(t, len(s)/wide)
	for at := range d.Sectors() {
		if b := s[at*wide : (at+1)*wide]; b != strings.Repeat("\x00", wide) {
			must(t, d.Write(at, []byte(b)))
		}
	}
	must(t, d.Sync())
	return d
}

// logged answers a disk with a log of these texts.
func logged(t *testing.T, sectors int, texts ...string) *disk.Disk {
	t.Helper()
	d := blank(t, sectors)
	l, e := wal.Open(d)
	must(t, e)
	for _, s := range texts {
		must(t, l.Append([]byte(s)))
	}
	return d
}

// stepless does something on a disk with which the power would go off at its first step.
func stepless(t *testing.T, d *disk.Disk, do func()) {
	t.Helper()
	was := all(t, d)
	must(t, d.Arm(0))
	do()
	if d.Off() || d.Open() != 0 {
		t.Fatalf("a step was done: off %t, %d open writes", d.Off(), d.Open())
	}
	must(t, d.Crash(nil))
	if all(t, d) != was {
		t.Fatal("the disk is another one")
	}
}

// opened answers the store that is on a disk.
func opened(t *testing.T, d *disk.Disk, quota int) *store.Store {
	t.Helper()
	s, e := store.Open(d, quota)
	if s == nil || e != api.OK {
		t.Fatalf("Open: a store %t, error %d", s != nil, e)
	}
	return s
}

// refused looks whether Open answers an error and nothing besides.
func refused(t *testing.T, what string, d *disk.Disk, quota int, asked api.Errno) {
	t.Helper()
	if s, e := store.Open(d, quota); s != nil || e != asked {
		t.Errorf("Open of %s: a store %t, error %d, not %d", what, s != nil, e, asked)
	}
}

// pairsAre looks whether these are the keys, with the values that are held.
func pairsAre(t *testing.T, what string, l []api.Pair, h held, keys []string) {
	t.Helper()
	if len(l) != len(keys) {
		t.Fatalf("%s: %d pairs, not %d", what, len(l), len(keys))
	}
	for k, p := range l {
		if p.Key != keys[k] || string(p.Value) != h[keys[k]] {
			t.Fatalf("%s: the pair %d is %q, %.100q, not %q, %.100q", what, k, p.Key, p.Value, keys[k], h[keys[k]])
		}
	}
}

// holds looks whether a store tells what is held, and nothing else.
func holds(t *testing.T, s *store.Store, h held) {
	t.Helper()
	keys := h.scan("", "", math.MaxInt)
	pairsAre(t, "All", s.All(), h, keys)
	pairsAre(t, "Scan of all", s.Scan("", "", math.MaxInt), h, keys)
	if s.Used() != h.used() {
		t.Fatalf("used %d, not %d", s.Used(), h.used())
	}
	for _, key := range append(keys, "a", "b", "c", "aa", "", "A", "k", name(longKey, 0), strings.Repeat("k", longKey+1), "\x00") {
		value, there := h[key]
		if b, ok := s.Get(key); ok != there || string(b) != value {
			t.Fatalf("Get(%q): %.100q, %t, not %.100q, %t", key, b, ok, value, there)
		}
	}
	if len(keys) == 0 {
		return
	}
	half := keys[len(keys)/2]
	pairsAre(t, "Scan behind a key", s.Scan("", half, 2), h, h.scan("", half, 2))
	pairsAre(t, "Scan from a front on", s.Scan(half[:1], "", 3), h, h.scan(half[:1], "", 3))
}

// twin is a store, and what chapter 11 says that it is.
type twin struct {
	disk  *disk.Disk
	store *store.Store
	quota int
	held  held
	texts []string
}

func made(t *testing.T, sectors, quota int) *twin {
	t.Helper()
	d := blank(t, sectors)
	return &twin{disk: d, store: opened(t, d, quota), quota: quota, held: held{}}
}

// left answers how many sectors are free.
func (w *twin) left() int {
	n := w.disk.Sectors()
	for _, s := range w.texts {
		n -= sectors(s)
	}
	return n
}

// asked answers what a Commit has to answer while the power is on.
func (w *twin) asked(l []api.Change) api.Errno {
	if e := checked(l); e != api.OK {
		return e
	}
	now, then := w.held.used(), w.held.behind(l).used()
	if then > w.quota && then > now {
		return api.ErrQuota
	}
	if len(encoded(l)) > longText {
		return api.ErrBig
	}
	if sectors(encoded(l)) > w.left() {
		return api.ErrFull
	}
	return api.OK
}

// tells looks whether the store tells what it has to.
func (w *twin) tells(t *testing.T) {
	t.Helper()
	holds(t, w.store, w.held)
	if got := w.store.Room(); got != room(w.left()) {
		t.Fatalf("room %d, not %d", got, room(w.left()))
	}
}

// fast looks whether the log on the disk has the texts of what was done, and whether the store is the same when it is opened anew.
func (w *twin) fast(t *testing.T) {
	t.Helper()
	d := laid(t, all(t, w.disk))
	log, e := wal.Open(d)
	must(t, e)
	got := log.Texts()
	if len(got) != len(w.texts) {
		t.Fatalf("%d texts, not %d", len(got), len(w.texts))
	}
	for k, b := range got {
		if string(b) != w.texts[k] {
			t.Fatalf("the text %d is %.100q, not %.100q", k, b, w.texts[k])
		}
	}
	stepless(t, d, func() {
		anew := twin{d, opened(t, d, w.quota), w.quota, w.held, w.texts}
		anew.tells(t)
	})
}

// commit does a Commit, holds it against what is asked for, and answers its error.
func (w *twin) commit(t *testing.T, l ...api.Change) api.Errno {
	t.Helper()
	asked := w.asked(l)
	if asked != api.OK {
		stepless(t, w.disk, func() {
			if e := w.store.Commit(l); e != asked {
				t.Fatalf("Commit of %.200q: error %d, not %d", encoded(l), e, asked)
			}
		})
		w.tells(t)
		return asked
	}
	if e := w.store.Commit(l); e != asked || w.disk.Open() != 0 {
		t.Fatalf("Commit of %.200q: error %d, %d open writes", encoded(l), e, w.disk.Open())
	}
	w.held = w.held.behind(l)
	w.texts = append(w.texts, encoded(l))
	w.tells(t)
	return api.OK
}

// The chapter's examples.
func TestExamples(t *testing.T) {
	w := made(t, 20, 100)
	must(t, w.commit(t, put("a", "1"), put("b", "22")))
	if got := w.store.Used(); got != 5 {
		t.Errorf("used %d", got)
	}
	want(t, "a and a", w.commit(t, put("a", ""), put("a", "")), api.ErrThere)
	if l := w.store.Scan("", "a", 9); len(l) != 1 || l[0].Key != "b" || string(l[0].Value) != "22" {
		t.Errorf("Scan: %v", l)
	}
}

// P11.3: which error Open answers, and which one first.
func TestOpenRefused(t *testing.T) {
	good, none := encoded(batch(put("a", "1"))), "none"
	broken := []byte(all(t, logged(t, 5, good, good)))
	broken[wide] ^= 1
	off := blank(t, 3)
	must(t, off.Arm(0))
	want(t, "Sync", off.Sync(), api.ErrPower)
	for what, c := range map[string]struct {
		disk  *disk.Disk
		asked api.Errno
	}{
		"no disk":           {nil, api.ErrNil},
		"a zero disk":       {new(disk.Disk), api.ErrNil},
		"a disk that's off": {off, api.ErrPower},
		"a broken frame":    {laid(t, string(broken)), api.ErrSum},
		"no changes":        {logged(t, 5, none), api.ErrForm},
		"no bytes":          {logged(t, 5, ""), api.ErrForm},
		"none at first":     {logged(t, 5, none, good, good), api.ErrForm},
		"none between":      {logged(t, 5, good, none, good), api.ErrForm},
		"none at last":      {logged(t, 5, good, good, none), api.ErrForm},
		"two in one text":   {logged(t, 5, good+good), api.ErrForm},
		"one key twice":     {logged(t, 5, encoded(batch(del("a"), put("a", "1")))), api.ErrForm},
		"too many":          {logged(t, 5, encoded(several(17))), api.ErrForm},
		"a full log":        {logged(t, 1, none), api.ErrForm},
	} {
		for _, quota := range []int{-1, -2, math.MinInt} {
			refused(t, what+" with a quota below 0", c.disk, quota, api.ErrArg)
		}
		for _, quota := range []int{0, 1, 100, math.MaxInt} {
			refused(t, what, c.disk, quota, c.asked)
		}
	}
	d := logged(t, 5, good)
	stepless(t, d, func() { refused(t, "a quota below 0", d, -1, api.ErrArg) })
	holds(t, opened(t, d, 0), held{"a": "1"})
}

// P11.3: a sum that is broken comes ahead of texts that are none of changes.
func TestOpenBrokenFirst(t *testing.T) {
	s := []byte(all(t, logged(t, 4, "none", encoded(batch(put("a", "1"))), "none")))
	for _, at := range []int{5, 64 + 5, 128 + 5, 128 + 18} {
		b := slices.Clone(s)
		b[at] ^= 16
		refused(t, "a broken frame", laid(t, string(b)), 9, api.ErrSum)
	}
}

// P11.3: what is left behind the log's end is wiped with the steps of wal.Open, whose error is Open's.
func TestOpenWipes(t *testing.T) {
	good := encoded(batch(put("a", "1")))
	s := all(t, logged(t, 2, good)) + row(2*wide, 1)
	for arm := range 4 {
		d, other := laid(t, s), laid(t, s)
		must(t, d.Arm(arm))
		must(t, other.Arm(arm))
		_, asked := wal.Open(other)
		got, e := store.Open(d, 9)
		if want(t, "Open", e, asked); (got == nil) != (e != api.OK) || d.Open() != other.Open() {
			t.Errorf("power off at the step %d: a store %t, %d open writes", arm, got != nil, d.Open())
		}
		if e == api.OK {
			holds(t, got, held{"a": "1"})
		}
		must(t, d.Crash([]bool{true}))
		must(t, other.Crash([]bool{true}))
		if all(t, d) != all(t, other) {
			t.Error("the disk is another one")
		}
		holds(t, opened(t, d, 9), held{"a": "1"})
	}
}

// P11.3: a store may use more than the quota with which it is opened.
func TestOpenAboveQuota(t *testing.T) {
	var texts []string
	h := held{}
	for _, l := range [][]api.Change{batch(put("a", row(50, 1)), put("b", "2")), batch(del("b"), put("c", "")), batch(put("a", row(30, 2)), del("z")), batch(put("b", row(99, 3)))} {
		texts = append(texts, encoded(l))
		h = h.behind(l)
	}
	for _, quota := range []int{0, 1, h.used() - 1, h.used(), h.used() + 1, math.MaxInt} {
		d := logged(t, 20, texts...)
		stepless(t, d, func() { holds(t, opened(t, d, quota), h) })
	}
	d := blank(t, 1)
	stepless(t, d, func() { holds(t, opened(t, d, 0), held{}) })
}

// P11.4: several changes at once, of keys that are there and of such that are not.
func TestCommitKinds(t *testing.T) {
	w := made(t, 60, 10000)
	for _, l := range [][]api.Change{
		batch(put("a", "1")),
		batch(put("a", "22"), put("b", ""), put("c", row(200, 1))),
		batch(del("a")),
		batch(del("a")),
		batch(del("none"), del("b"), put("a", "")),
		batch(put("a", "x"), del("c")),
		batch(api.Change{Key: "n"}, api.Change{Key: "m", Value: []byte{}}),
		batch(put("a", "x")),
		several(longBatch),
		batch(put(name(longKey, 1), row(300, 3)), del("!")),
		nil,
	} {
		if len(l) == 0 {
			for key := range w.held {
				l = append(l, del(key))
			}
			l = l[:longBatch]
		}
		must(t, w.commit(t, l...))
	}
	for _, c := range kinds() {
		w.commit(t, c)
		w.commit(t, put("more", "and more"), c)
		w.commit(t, c, c)
	}
	w.commit(t)
	w.commit(t, several(longBatch+1)...)
	w.fast(t)
}

// P11.4: just above the quota, just at it, and above it with less than now.
func TestQuota(t *testing.T) {
	for quota := range 12 {
		w := made(t, 200, quota)
		for n := range 15 {
			asked := api.OK
			if 1+n > quota {
				asked = api.ErrQuota
			}
			want(t, "a key and its value", w.commit(t, put("k", row(n, n))), asked)
		}
		want(t, "one byte more", w.commit(t, put("l", "")), api.ErrQuota)
		if quota > 0 {
			must(t, w.commit(t, put("k", row(quota-1, 1))))
			must(t, w.commit(t, del("k"), put("l", row(quota-1, 1))))
		}
		w.fast(t)
	}
}

// P11.4: a store that uses more than its quota may use as much, or less, but no more.
func TestAboveQuota(t *testing.T) {
	text := encoded(batch(put("a", row(10, 1)), put("b", row(10, 2))))
	for quota := range 22 {
		d := logged(t, 50, text)
		w := &twin{d, opened(t, d, quota), quota, held{"a": row(10, 1), "b": row(10, 2)}, []string{text}}
		w.tells(t)
		want(t, "one byte more", w.commit(t, put("a", row(11, 1))), api.ErrQuota)
		want(t, "a key more", w.commit(t, put("c", "")), api.ErrQuota)
		want(t, "a key more, a byte less", w.commit(t, put("cc", ""), put("a", row(9, 1))), api.ErrQuota)
		want(t, "as much", w.commit(t, put("a", row(10, 3))), api.OK)
		want(t, "as much, for another key", w.commit(t, del("b"), put("c", row(10, 3))), api.OK)
		want(t, "as much, moved", w.commit(t, put("a", row(4, 3)), put("c", row(16, 3))), api.OK)
		want(t, "nothing", w.commit(t, del("none")), api.OK)
		want(t, "one byte less", w.commit(t, put("a", row(3, 3))), api.OK)
		want(t, "one byte more, as it was", w.commit(t, put("a", row(4, 3))), api.ErrQuota)
		w.fast(t)
	}
}

// P11.4: the errors of wal.Append, and which of all comes first.
func TestCommitRefused(t *testing.T) {
	long := func(n int) []api.Change {
		l := batch(put("a", row(longValue, 1)), put("b", row(longValue, 2)), put("c", row(longValue, 3)), put("d", ""))
		l[3].Value = []byte(row(n-len(encoded(l))-1, 4)) // one byte more, for its length
		return l
	}
	if len(encoded(long(longText))) != longText || len(encoded(long(longText+1))) != longText+1 {
		t.Fatal("not as long as it is to be")
	}
	w := made(t, 258, math.MaxInt)
	want(t, "one byte more than a frame has", w.commit(t, long(longText+1)...), api.ErrBig)
	want(t, "as many bytes as a frame has", w.commit(t, long(longText)...), api.OK)
	want(t, "as many, no room", w.commit(t, long(longText)...), api.ErrFull)
	want(t, "too long, no room", w.commit(t, long(longText+1)...), api.ErrBig)
	want(t, "room for 44", w.commit(t, put("a", row(40, 1))), api.ErrFull)
	want(t, "44", w.commit(t, put("a", row(39, 1))), api.OK)
	want(t, "full", w.commit(t, del("a")), api.ErrFull)
	if w.store.Room() != -1 {
		t.Errorf("room %d", w.store.Room())
	}
	w.fast(t)

	w = made(t, 2, 50)
	want(t, "too much, too long", w.commit(t, long(longText+1)...), api.ErrQuota)
	want(t, "too much, no room", w.commit(t, long(longText)...), api.ErrQuota)
	want(t, "too much, one is great", w.commit(t, append(long(longText), put("e", row(longValue+1, 1)))...), api.ErrBig)
	want(t, "too much, one is there", w.commit(t, append(long(longText), put("a", ""))...), api.ErrThere)
	want(t, "too much, one has no key", w.commit(t, append(long(longText), put("", ""))...), api.ErrArg)
	must(t, w.commit(t, put("a", row(49, 1))))
	want(t, "full", w.commit(t, put("a", "")), api.ErrFull)
	want(t, "full, and too much", w.commit(t, put("a", row(50, 1))), api.ErrQuota)
	w.fast(t)
}

// P11.4: all rows of three Commits out of some, with several quotas, on small disks.
func TestCommitAllRows(t *testing.T) {
	of := [][]api.Change{
		batch(put("a", "1")), batch(put("a", "")), batch(put("b", "22"), put("a", "333")), batch(del("a")),
		batch(del("b"), put("aa", "1")), batch(del("a"), del("b"), del("aa")), batch(put("b", row(40, 1))),
		batch(put("a", "1"), put("a", "2")), batch(put("a", ""), put("b", ""), put("aa", "")),
	}
	told := map[api.Errno]int{}
	for _, quota := range []int{0, 2, 3, 7, 100} {
		for _, size := range []int{1, 3, 4} {
			for set := range len(of) * len(of) * len(of) {
				w := made(t, size, quota)
				for k, rest := 0, set; k < 3; k++ {
					told[w.commit(t, of[rest%len(of)]...)]++
					rest /= len(of)
				}
			}
		}
	}
	for _, e := range []api.Errno{api.OK, api.ErrThere, api.ErrQuota, api.ErrFull} {
		if told[e] < 100 {
			t.Errorf("error %d: %d times", e, told[e])
		}
	}
}

// chance answers changes by chance, now and then such that can't be.
func chance(by *rand.Rand) []api.Change {
	var l []api.Change
	for range 1 + by.Intn(1+by.Intn(6)) {
		c := put(name(1+by.Intn(3), by.Intn(6)), row(by.Intn(1+by.Intn(150)), by.Intn(99)))
		if by.Intn(3) == 0 {
			c = del(c.Key)
		}
		if by.Intn(60) == 0 {
			c = kinds()[by.Intn(len(kinds()))]
		}
		l = append(l, c)
	}
	return l
}

// P11.3, P11.4, P11.5: long rows of Commits by chance, the store opened anew now and then with another quota.
func TestCommitByChance(t *testing.T) {
	by := rand.New(rand.NewSource(3))
	told := map[api.Errno]int{}
	for range 30 {
		w := made(t, 1+by.Intn(150), by.Intn(1500))
		for range 60 {
			told[w.commit(t, chance(by)...)]++
			if by.Intn(20) == 0 {
				w.fast(t)
				w.quota = by.Intn(1500)
				w.store = opened(t, w.disk, w.quota)
				w.tells(t)
			}
		}
	}
	for _, e := range []api.Errno{api.OK, api.ErrArg, api.ErrBig, api.ErrThere, api.ErrQuota, api.ErrFull} {
		if told[e] < 10 {
			t.Errorf("error %d: %d times", e, told[e])
		}
	}
}

// P11.5: keys byte by byte; fronts and places that are keys and that are none; as many as are asked for.
func TestScan(t *testing.T) {
	keys := []string{"!", "~", "a", "aa", "aaa", "ab", "a!", "a~", "b", "B", "b1", "b10", "b2", "}", "~~", name(longKey, 0), name(longKey, 93), name(longKey-1, 93)}
	w := made(t, 100, 10000)
	for k, key := range keys {
		must(t, w.commit(t, put(key, row(k*7, k))))
	}
	places := append([]string{
		"", " ", "\x00", "\x7f", "\xff", "aab", "az", "b11", "c", "ac", "nothing", "k",
		strings.Repeat("k", 39), strings.Repeat("k", 50), strings.Repeat("a", 200), strings.Repeat("~", 50), "a\x00", "a\xff", "~~~",
	}, keys...)
	for _, front := range places {
		for _, after := range places {
			for _, most := range []int{0, -1, math.MinInt, 1, 2, 3, len(keys) - 1, len(keys), len(keys) + 1, math.MaxInt} {
				pairsAre(t, "Scan", w.store.Scan(front, after, most), w.held, w.held.scan(front, after, most))
			}
		}
	}
	got := ""
	for _, p := range w.store.Scan("", "", 11) {
		got += p.Key + " "
	}
	if got != "! B a a! aa aaa ab a~ b b1 b10 " {
		t.Errorf("Scan: %q", got)
	}
	must(t, w.commit(t, del("aa"), del("b"), put("a", "")))
	pairsAre(t, "Scan behind what was deleted", w.store.Scan("a", "aa", 9), w.held, []string{"aaa", "ab", "a~"})
	pairsAre(t, "Scan of what was deleted", w.store.Scan("b", "", 2), w.held, []string{"b1", "b10"})
}

// P11.5: a store of very many keys.
func TestMany(t *testing.T) {
	w := made(t, 4096, math.MaxInt)
	for n := range 60 {
		var l []api.Change
		for k := range longBatch {
			l = append(l, put(string([]byte{byte('!' + n*k%90), byte('!' + k), byte('!' + n)}), row(k, n)))
		}
		must(t, w.store.Commit(l))
		w.held = w.held.behind(l)
		w.texts = append(w.texts, encoded(l))
	}
	w.tells(t)
	after, n := "", 0
	for l := w.store.Scan("", "", 100); len(l) > 0; l = w.store.Scan("", after, 100) {
		pairsAre(t, "Scan", l, w.held, w.held.scan("", after, 100))
		after = l[len(l)-1].Key
		n += len(l)
	}
	if n != 60*longBatch {
		t.Errorf("%d pairs", n)
	}
	w.fast(t)
}

// P11.5: Get of all kinds of keys.
func TestGet(t *testing.T) {
	w := made(t, 300, 100000)
	get := func(key, asked string, there bool) {
		t.Helper()
		if b, ok := w.store.Get(key); string(b) != asked || ok != there {
			t.Errorf("Get(%q): %.50q, %t", key, b, ok)
		}
	}
	get("a", "", false)
	must(t, w.commit(t, put("a", "1"), put("b", ""), put("c", row(longValue, 1)), put(name(longKey, 1), "x")))
	get("a", "1", true)
	get("b", "", true)
	get("c", row(longValue, 1), true)
	get(name(longKey, 1), "x", true)
	get("d", "", false)
	get("", "", false)
	get("a\x00", "", false)
	must(t, w.commit(t, del("a"), put("b", "2")))
	get("a", "", false)
	get("b", "2", true)
	must(t, w.commit(t, put("a", "3"), del("b")))
	get("a", "3", true)
	get("b", "", false)
}

// R1, P11.5: stores that Open did not make.
func TestNoStore(t *testing.T) {
	for _, s := range []*store.Store{nil, {}, new(store.Store)} {
		for range 2 {
			for _, l := range [][]api.Change{nil, batch(put("a", "1")), batch(put("a", ""), del("a")), several(17), batch(put("a", row(longValue+1, 1)))} {
				want(t, "Commit", s.Commit(l), api.ErrNil)
			}
			if b, ok := s.Get("a"); len(b) != 0 || ok {
				t.Errorf("Get: %q, %t", b, ok)
			}
			if len(s.Scan("", "", 9)) != 0 || len(s.All()) != 0 || s.Used() != 0 || s.Room() != -1 {
				t.Errorf("%d pairs, used %d, room %d", len(s.All()), s.Used(), s.Room())
			}
		}
	}
}

// R3: a Commit changes nothing that it is handed, and keeps nothing of it.
func TestHandedIn(t *testing.T) {
	lists := [][]api.Change{nil, several(3), several(longBatch), several(longBatch + 1)}
	for _, c := range kinds() {
		lists = append(lists, batch(c), batch(put("x", "y"), c))
	}
	for _, l := range lists {
		for _, arm := range []int{0, 1, 2, 1000} {
			for _, quota := range []int{0, 4, 1 << 20} {
				w := made(t, 100, quota)
				handed, intact := roomy(l)
				must(t, w.disk.Arm(arm))
				e := w.store.Commit(handed)
				if !intact() {
					t.Fatal("Commit changed what it was handed")
				}
				for k, c := range handed {
					for i := range c.Value {
						c.Value[i]++
					}
					handed[k] = put("other", "one")
				}
				must(t, w.disk.Crash(nil))
				if e == api.OK {
					w.held = w.held.behind(l)
				}
				holds(t, w.store, w.held)
				holds(t, opened(t, w.disk, quota), w.held)
			}
		}
	}
}

// spoil changes all that is in pairs, and what is behind their ends.
func spoil(l []api.Pair) {
	l = l[:cap(l)]
	for k, p := range l {
		b := p.Value[:cap(p.Value)]
		for i := range b {
			b[i] += 3
		}
		l[k] = api.Pair{Key: "other", Value: append(p.Value, "more and more"...)}
	}
	_ = append(l, api.Pair{})
}

// R3: what Get, Scan and All answer is nobody else's.
func TestAnswersAreNew(t *testing.T) {
	w := made(t, 100, 10000)
	l := several(longBatch)
	must(t, w.commit(t, l...))
	must(t, w.commit(t, put("a", "1"), put("aa", row(100, 1)), put("ab", "")))
	for range 3 {
		for most := range 20 {
			for _, front := range []string{"", "a", "k", "none"} {
				was := w.store.Scan(front, "", most)
				spoil(w.store.Scan(front, "", most))
				pairsAre(t, "Scan", was, w.held, w.held.scan(front, "", most))
				w.tells(t)
			}
		}
		was := w.store.All()
		spoil(w.store.All())
		pairsAre(t, "All", was, w.held, w.held.scan("", "", math.MaxInt))
		for k := range was {
			_ = append(was[k].Value, "more and more"...)
		}
		pairsAre(t, "All", was, w.held, w.held.scan("", "", math.MaxInt))
		w.tells(t)
		for key, value := range w.held {
			one, _ := w.store.Get(key)
			other, _ := w.store.Get(key)
			one = one[:cap(one)]
			for i := range one {
				one[i] += 3
			}
			if string(other) != value {
				t.Fatal("two answers share memory")
			}
		}
		w.tells(t)
		now := w.held
		must(t, w.commit(t, put("a", "9"), put("aa", row(50, 2)), del("!")))
		pairsAre(t, "All, ahead of a Commit", was, now, now.scan("", "", math.MaxInt))
		w.tells(t)
	}
	w.fast(t)
}

// R4: two stores on two disks know nothing of one another.
func TestTwoStores(t *testing.T) {
	by := rand.New(rand.NewSource(4))
	both := [2]*twin{made(t, 80, 300), made(t, 50, 1000)}
	for range 100 {
		both[by.Intn(2)].commit(t, chance(by)...)
		both[0].tells(t)
		both[1].tells(t)
	}
	both[0].fast(t)
	both[1].fast(t)
	must(t, both[0].disk.Arm(0))
	want(t, "Sync", both[0].disk.Sync(), api.ErrPower)
	both[1].tells(t)
	both[1].commit(t, del("a"))
	both[0].tells(t)
}
