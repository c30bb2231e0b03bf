package ledger_test

import (
	"crypto/hmac"
	"crypto/sha256"
	"encoding/binary"
	"math"
	"math/rand"
	"slices"
	"testing"

	"inquest/api"
	"inquest/entry"
	"inquest/ledger"
)

// What the chapter says of heads and ledgers, written anew with the library's sums, for the tests to hold the package against.

const (
	mostEntries = 64
	least       = math.MinInt
	greatest    = math.MaxInt
)

// leafOf answers a text's leaf.
func leafOf(text string) api.Digest { return sha256.Sum256([]byte("\x00" + text)) }

// nodeOf answers the sum of two.
func nodeOf(x, y api.Digest) api.Digest {
	return sha256.Sum256([]byte("\x01" + string(x[:]) + string(y[:])))
}

// cut answers the two pieces of a list of more than one.
func cut(l []api.Digest) (first, others []api.Digest) {
	k := 1
	for 2*k < len(l) {
		k *= 2
	}
	return l[:k], l[k:]
}

// rootOf answers the root of a list.
func rootOf(l []api.Digest) api.Digest {
	if len(l) == 0 {
		return sha256.Sum256(nil)
	}
	if len(l) == 1 {
		return l[0]
	}
	first, others := cut(l)
	return nodeOf(rootOf(first), rootOf(others))
}

// chainOf answers the chain along a list.
func chainOf(l []api.Digest) api.Digest {
	if len(l) == 0 {
		return api.Digest{}
	}
	end := len(l) - 1
	return nodeOf(chainOf(l[:end]), l[end])
}

// pathOf answers the path of a place that a list has.
func pathOf(l []api.Digest, i int) []api.Digest {
	if len(l) == 1 {
		return nil
	}
	first, others := cut(l)
	if i < len(first) {
		return append(pathOf(first, i), rootOf(others))
	}
	return append(pathOf(others, i-len(first)), rootOf(first))
}

// growthOf answers the growth from a beginning that a list has.
func growthOf(l []api.Digest, m int, whole bool) []api.Digest {
	if m == len(l) && whole {
		return nil
	}
	if m == len(l) {
		return []api.Digest{rootOf(l)}
	}
	first, others := cut(l)
	if m <= len(first) {
		return append(growthOf(first, m, whole), rootOf(others))
	}
	return append(growthOf(others, m-len(first), false), rootOf(first))
}

// wordsOf answers a head's text.
func wordsOf(h api.Head) string {
	b := binary.BigEndian.AppendUint64(nil, uint64(h.Size))
	return string(b) + string(h.Root[:]) + string(h.Chain[:])
}

// signOf answers a text's sum by a key.
func signOf(key []byte, text string) api.Digest {
	h := hmac.New(sha256.New, key)
	h.Write([]byte(text))
	return api.Digest(h.Sum(nil))
}

// book is a ledger by the chapter's words: all that it tells is reckoned of the key and the texts anew.
type book struct {
	key    []byte
	texts  []string
	leaves []api.Digest
}

// add answers what Add has to say.
func (b *book) add(e api.Entry) api.Errno {
	if err := entry.Check(e); err != api.OK {
		return err
	}
	if len(b.texts) >= mostEntries {
		return api.ErrFull
	}
	if e.Job != len(b.texts) {
		return api.ErrArg
	}
	text, _ := entry.Encode(e)
	b.texts = append(b.texts, string(text))
	b.leaves = append(b.leaves, leafOf(string(text)))
	return api.OK
}

// has tells whether n is 0 to Size.
func (b *book) has(n int) bool { return n >= 0 && n <= len(b.texts) }

// text answers what Text has to say.
func (b *book) text(i int) (string, api.Errno) {
	if i < 0 || i >= len(b.texts) {
		return "", api.ErrNone
	}
	return b.texts[i], api.OK
}

// head answers what Head has to say.
func (b *book) head(n int) (api.Head, api.Errno) {
	if !b.has(n) {
		return api.Head{}, api.ErrNone
	}
	h := api.Head{Size: n, Root: rootOf(b.leaves[:n]), Chain: chainOf(b.leaves[:n])}
	h.Sign = signOf(b.key, wordsOf(h))
	return h, api.OK
}

// path answers what Path has to say.
func (b *book) path(i, n int) ([]api.Digest, api.Errno) {
	if !b.has(n) || i < 0 || i >= n {
		return nil, api.ErrNone
	}
	return pathOf(b.leaves[:n], i), api.OK
}

// growth answers what Growth has to say.
func (b *book) growth(m, n int) ([]api.Digest, api.Errno) {
	if !b.has(n) || m < 1 || m > n {
		return nil, api.ErrNone
	}
	return growthOf(b.leaves[:n], m, true), api.OK
}

// pair is a ledger and what it has to be.
type pair struct {
	l *ledger.Ledger
	b *book
}

// made answers a new ledger, beside the words for it.
func made(t *testing.T, key []byte) pair {
	t.Helper()
	l := ledger.New(key)
	if l == nil {
		t.Fatalf("New(%x): nil", key)
	}
	return pair{l, &book{key: slices.Clone(key)}}
}

// filled answers a ledger of n entries by chance.
func filled(t *testing.T, key []byte, n int) pair {
	t.Helper()
	p := made(t, key)
	r := rand.New(rand.NewSource(int64(2100 + n)))
	for job := range n {
		p.adds(t, chance(r, job), api.OK)
	}
	return p
}

// add holds Add against the words, and answers its error.
func (p pair) add(t *testing.T, e api.Entry) api.Errno {
	t.Helper()
	size, want := len(p.b.texts), p.b.add(e)
	if err := p.l.Add(e); err != want {
		t.Fatalf("Add of %v to %d: error %d, not %d", e, size, err, want)
	}
	return want
}

// adds asks for Add's answer.
func (p pair) adds(t *testing.T, e api.Entry, want api.Errno) {
	t.Helper()
	if err := p.add(t, e); err != want {
		t.Fatalf("Add of %v: error %d, not %d", e, err, want)
	}
}

// text holds Text against the words, and answers its error.
func (p pair) text(t *testing.T, i int) api.Errno {
	t.Helper()
	want, asked := p.b.text(i)
	if got, err := p.l.Text(i); err != asked || string(got) != want {
		t.Fatalf("Text(%d) of %d: %x, error %d, not %x, error %d", i, len(p.b.texts), got, err, want, asked)
	}
	return asked
}

// texts holds Texts and Size against the words.
func (p pair) texts(t *testing.T) {
	t.Helper()
	if n := p.l.Size(); n != len(p.b.texts) {
		t.Fatalf("Size: %d, not %d", n, len(p.b.texts))
	}
	if got := strs(p.l.Texts()); !slices.Equal(got, p.b.texts) {
		t.Fatalf("Texts: %x, not %x", got, p.b.texts)
	}
}

// head holds Head against the words, and answers its error.
func (p pair) head(t *testing.T, n int) api.Errno {
	t.Helper()
	want, asked := p.b.head(n)
	if got, err := p.l.Head(n); err != asked || got != want {
		t.Fatalf("Head(%d) of %d: %x, error %d, not %x, error %d", n, len(p.b.texts), got, err, want, asked)
	}
	return asked
}

// path holds Path against the words, and answers its error.
func (p pair) path(t *testing.T, i, n int) api.Errno {
	t.Helper()
	want, asked := p.b.path(i, n)
	if got, err := p.l.Path(i, n); err != asked || !slices.Equal(got, want) {
		t.Fatalf("Path(%d, %d) of %d: %x, error %d, not %x, error %d", i, n, len(p.b.texts), got, err, want, asked)
	}
	return asked
}

// growth holds Growth against the words, and answers its error.
func (p pair) growth(t *testing.T, m, n int) api.Errno {
	t.Helper()
	want, asked := p.b.growth(m, n)
	if got, err := p.l.Growth(m, n); err != asked || !slices.Equal(got, want) {
		t.Fatalf("Growth(%d, %d) of %d: %x, error %d, not %x, error %d", m, n, len(p.b.texts), got, err, want, asked)
	}
	return asked
}

// stands holds all texts and all heads against the words, and what stands beside them.
func (p pair) stands(t *testing.T) {
	t.Helper()
	p.texts(t)
	for _, n := range near(len(p.b.texts)) {
		p.text(t, n)
		p.head(t, n)
	}
}

// proves holds all paths and growths against the words, and what stands beside them.
func (p pair) proves(t *testing.T) {
	t.Helper()
	all := near(len(p.b.texts))
	for _, x := range all {
		for _, n := range all {
			p.path(t, x, n)
			p.growth(t, x, n)
		}
	}
}

// near answers the numbers from -1 to one more than size, 65, the least and the greatest ones.
func near(size int) []int {
	l := []int{mostEntries + 1, least, least + 1, greatest - 1, greatest}
	for n := -1; n <= size+1; n++ {
		l = append(l, n)
	}
	return l
}

// strs answers lists of bytes as strings.
func strs(l [][]byte) []string {
	var out []string
	for _, b := range l {
		out = append(out, string(b))
	}
	return out
}

// row answers n bytes of which neighbours are unlike and none is 0.
func row(n int) []byte {
	var b []byte
	for i := range n {
		b = append(b, byte(1+(i*7+n)%255))
	}
	return b
}

// keys answers keys of all the lengths that matter, no two of which sign alike, but for the first two, which are empty.
func keys() [][]byte {
	return [][]byte{nil, {}, row(1), row(2), row(63), row(64), row(65), row(200)}
}

// digest answers a digest of 32 unlike bytes.
func digest(first byte) api.Digest {
	var d api.Digest
	for i := range d {
		d[i] = first + byte(i)
	}
	return d
}

// sizes are what a head's Size may be, whether a ledger has it or not.
func sizes() []int {
	return []int{0, 1, 2, 63, 64, 65, 127, 128, 255, 256, 257, 65535, 65536, 1<<32 - 1, 1 << 32, 0x0102030405060708, -1, -2, -255, -256, -257, -1 << 32, least, least + 1, greatest - 1, greatest}
}

// headOf answers a head of that Size, all of whose other bytes are unlike.
func headOf(size int) api.Head {
	return api.Head{Size: size, Root: digest(0x10), Chain: digest(0x80), Sign: digest(0xc0)}
}

// plain answers an entry that can be.
func plain(job int) api.Entry {
	return api.Entry{Job: job, Time: 7, History: digest(0x21), Spec: digest(0xa1), Verdict: api.Verdict{Kind: api.FitsNot, Tries: 3}}
}

// chance answers an entry that can be, by chance, of that job.
func chance(r *rand.Rand, job int) api.Entry {
	e := api.Entry{Job: job, Time: r.Intn(api.MaxTime+1) >> r.Intn(41)}
	r.Read(e.History[:])
	r.Read(e.Spec[:])
	e.Verdict = api.Verdict{Kind: 1 + r.Intn(4), Tries: r.Intn(api.MaxTries+1) >> r.Intn(31)}
	if e.Verdict.Kind == api.Fits {
		e.Verdict.Order = r.Perm(api.MaxOps)[:r.Intn(api.MaxOps+1)]
	}
	return e
}

// wrong answers entries that can't be, each for one reason alone; but for the first ones Job is as it is asked for.
func wrong(job int) []api.Entry {
	var l []api.Entry
	spoilt := func(change func(e *api.Entry)) {
		e := plain(job)
		change(&e)
		l = append(l, e)
	}
	for _, x := range []int{64, -1, 65, least, greatest} {
		spoilt(func(e *api.Entry) { e.Job = x })
	}
	for _, x := range []int{-1, api.MaxTime + 1, least, greatest} {
		spoilt(func(e *api.Entry) { e.Time = x })
	}
	for _, x := range []int{0, 5, -1, 257, least, greatest} {
		spoilt(func(e *api.Entry) { e.Verdict.Kind = x })
	}
	for _, x := range []int{-1, api.MaxTries + 1, least, greatest} {
		spoilt(func(e *api.Entry) { e.Verdict.Tries = x })
	}
	for _, kind := range []int{api.FitsNot, api.OutFuel, api.OutTry} {
		spoilt(func(e *api.Entry) { e.Verdict = api.Verdict{Kind: kind, Order: []int{0}} })
	}
	for _, order := range [][]int{{64}, {-1}, {0, 0}, {3, 1, 3}, {least}, {greatest}, make([]int, 65)} {
		spoilt(func(e *api.Entry) { e.Verdict = api.Verdict{Kind: api.Fits, Order: order} })
	}
	return l
}

// often asks that each of these was met so many times at least.
func often[K comparable](t *testing.T, met map[K]int, least int, keys ...K) {
	t.Helper()
	for _, k := range keys {
		if met[k] < least {
			t.Errorf("%v: only %d times", k, met[k])
		}
	}
}

// spoil changes a list, and all of the room behind it.
func spoil[T any](l []T, filler T) {
	l = l[:cap(l)]
	for i := range l {
		l[i] = filler
	}
}
