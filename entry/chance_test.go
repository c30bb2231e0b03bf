package entry_test

import (
	"math/rand"
	"slices"
	"testing"

	"inquest/api"
	"inquest/entry"
)

// P20.4: what was written, read, is the same entry; what was read, written, is the same text.
func TestThereAndBack(t *testing.T) {
	r := rand.New(rand.NewSource(203))
	kinds, lengths := map[int]int{}, map[int]int{}
	for range 30000 {
		e := chance(r)
		b, err := entry.Encode(e)
		if err != api.OK {
			t.Fatalf("Encode of %v: error %d", e, err)
		}
		got, err := entry.Decode(b)
		if err != api.OK || !same(got, e) {
			t.Fatalf("%v, written and read: %v, error %d", e, got, err)
		}
		again, err := entry.Encode(got)
		if err != api.OK || !slices.Equal(again, b) {
			t.Fatalf("%x, read and written: %x, error %d", b, again, err)
		}
		kinds[e.Verdict.Kind]++
		lengths[len(e.Verdict.Order)]++
	}
	often(t, kinds, 1000, 1, 2, 3, 4)
	often(t, lengths, 10, upTo(65)...)
}

// P20.4: unlike entries have unlike texts.
func TestUnlikeTexts(t *testing.T) {
	r := rand.New(rand.NewSource(204))
	met := map[string]api.Entry{}
	for range 20000 {
		e := api.Entry{Job: r.Intn(3), Time: 127 + r.Intn(3)}
		e.History[r.Intn(32)] = byte(r.Intn(2))
		e.Spec[r.Intn(32)] = byte(r.Intn(2))
		e.Verdict = api.Verdict{Kind: 1 + r.Intn(4), Tries: 127 + r.Intn(3)}
		if e.Verdict.Kind == api.Fits {
			e.Verdict.Order = r.Perm(3)[:r.Intn(4)]
		}
		b, err := entry.Encode(e)
		if was, ok := met[string(b)]; err != api.OK || ok && !same(was, e) {
			t.Fatalf("%v and %v: %x, error %d", was, e, b, err)
		}
		met[string(b)] = e
	}
}

// P20.1 to P20.4: any entries, held against the chapter's words.
func TestEntriesByChance(t *testing.T) {
	r := rand.New(rand.NewSource(205))
	met := map[api.Errno]int{}
	for range 50000 {
		met[judged(t, anyEntry(r))]++
	}
	often(t, met, 5000, api.OK, api.ErrArg)
}

// P20.2, P20.4: texts of which some bytes were changed, taken out, or put in.
func TestTextsByChance(t *testing.T) {
	r := rand.New(rand.NewSource(206))
	met := map[api.Errno]int{}
	for range 60000 {
		b := []byte(written(chance(r)))
		for range 1 + r.Intn(3) {
			b = changed(r, b)
		}
		met[reads(t, string(b))]++
	}
	often(t, met, 1000, api.OK, api.ErrForm)
}

// changed answers a text with one thing changed; what is no digest is changed more often than its share.
func changed(r *rand.Rand, b []byte) []byte {
	at := r.Intn(len(b))
	if r.Intn(2) == 0 {
		at = min(at, r.Intn(8))
	} else {
		at = max(at, min(66+r.Intn(14), len(b)-1))
	}
	switch r.Intn(5) {
	case 0:
		b[at] = byte(r.Intn(256))
	case 1:
		b[at] ^= 1 << r.Intn(8)
	case 2:
		b = slices.Insert(b, at, byte(r.Intn(256)))
	case 3:
		b = slices.Delete(b, at, at+1)
	case 4:
		to := r.Intn(len(b))
		b[at], b[to] = b[to], b[at]
	}
	return b
}

// P20.2, P20.4: bytes by chance, of lengths as entries have them; short numbers are likely where they must stand.
func TestBytesByChance(t *testing.T) {
	r := rand.New(rand.NewSource(207))
	met := map[api.Errno]int{}
	for range 100000 {
		b := make([]byte, r.Intn(150))
		r.Read(b)
		for i := range b {
			if i < 2 || i > 65 {
				b[i] %= byte(1 + r.Intn(8))
			}
		}
		met[reads(t, string(b))]++
		r.Read(b)
		met[reads(t, string(b))]++
		if len(b) > 69 {
			b[0], b[1], b[66], b[67], b[68] = byte(r.Intn(64)), byte(r.Intn(128)), 1, byte(r.Intn(128)), byte(len(b)-69)
			for i, at := range r.Perm(len(b) - 69) {
				b[69+i] = byte(at)
			}
			met[reads(t, string(b))]++
		}
	}
	often(t, met, 1000, api.OK, api.ErrForm)
}

// R1: no panic comes out of the package, and every call ends, whatever is handed in.
func TestNoPanic(t *testing.T) {
	r := rand.New(rand.NewSource(208))
	for range 20000 {
		var e api.Entry
		e.Job, e.Time = anyNumber(r), anyNumber(r)
		e.Verdict = api.Verdict{Kind: anyNumber(r), Tries: anyNumber(r)}
		for range r.Intn(100) {
			e.Verdict.Order = append(e.Verdict.Order, anyNumber(r))
		}
		judged(t, e)
		reads(t, written(e))
	}
	long := make([]byte, 1<<20)
	for _, filler := range []byte{0, 1, 0x3f, 0x7f, 0x80, 0xff} {
		spoil(long, filler)
		reads(t, string(long))
	}
	judged(t, plain(api.Fits, make([]int, 1<<20)...))
}
