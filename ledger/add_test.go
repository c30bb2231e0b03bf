package ledger_test

import (
	"encoding/hex"
	"slices"
	"testing"

	"inquest/api"
	"inquest/entry"
	"inquest/ledger"
	"inquest/merkle"
)

// P21.1 to P21.3: the chapter's examples.
func TestExamples(t *testing.T) {
	p := filled(t, []byte("key"), 2)
	texts := p.l.Texts()
	first, second := merkle.Leaf(texts[0], 256), merkle.Leaf(texts[1], 256)
	if h, err := p.l.Head(1); err != api.OK || h.Root != first {
		t.Errorf("Head(1): %x, error %d", h, err)
	}
	if l, err := p.l.Path(0, 2); err != api.OK || !slices.Equal(l, []api.Digest{second}) {
		t.Errorf("Path(0, 2): %x, error %d", l, err)
	}
	if l, err := p.l.Growth(1, 2); err != api.OK || !slices.Equal(l, []api.Digest{second}) {
		t.Errorf("Growth(1, 2): %x, error %d", l, err)
	}
	if h, err := p.l.Head(3); err != api.ErrNone || h != (api.Head{}) {
		t.Errorf("Head(3): %x, error %d", h, err)
	}
}

// P21.1 to P21.3: a ledger of three entries whose sums another program reckoned.
func TestReckoned(t *testing.T) {
	l := ledger.New([]byte("key"))
	for job, e := range []api.Entry{
		{Verdict: api.Verdict{Kind: api.FitsNot}},
		{Job: 1, Time: 300, History: digest(1), Spec: digest(33), Verdict: api.Verdict{Kind: api.Fits, Order: []int{1, 0}, Tries: 3}},
		{Job: 2, Time: 1, History: repeated(0xaa), Spec: repeated(0x55), Verdict: api.Verdict{Kind: api.OutTry, Tries: 9}},
	} {
		if err := l.Add(e); err != api.OK {
			t.Fatalf("Add of %d: error %d", job, err)
		}
	}
	for n, want := range [][3]string{
		{"e3b0c44298fc1c149afbf4c8996fb92427ae41e4649b934ca495991b7852b855", "0000000000000000000000000000000000000000000000000000000000000000", "352910a8d6b5e0b3e81841b76a803a2cbcc38d658b586154a8346d2799b3ed20"},
		{"8333a7aec136568aa128a48a16654adbe512338a4ae2308d9a0535ebf37e763a", "f70ec540c093a2b4621e3d653250f343fd6ec80a3463bc527577631306f44719", "4bc84203976f803256a58d8073c84587a07ca3a165119d3dbb03b703f8d755dd"},
		{"c186b9a74ea7e04e7d865045fc4aaf110309c289cef8c7dba645a13ae6e741e4", "560653d4077d3d73653d1d1442cde9b1601f1beba481fcfb17167d5964d9e236", "99aaa632460403718b8d96bf30dfff0dc090f32d47f4fc2ecdc0bcf48e30ef1a"},
		{"61f5d7b9faa92fc64f364c3ca423b5026ae66644ec1ff7d120926a8afc8adbf0", "ee366ce349d5ad3070cc6c9b5f9e73e947a0d17b94991fa7fa8a4c951294f647", "527f4c567f4e6304d7a8e05ae994ec0ce6f30e84e6f536c38eba554c5ac70d10"},
	} {
		h, err := l.Head(n)
		got := [3]string{hex.EncodeToString(h.Root[:]), hex.EncodeToString(h.Chain[:]), hex.EncodeToString(h.Sign[:])}
		if err != api.OK || h.Size != n || got != want {
			t.Errorf("Head(%d): %d, %v, error %d", n, h.Size, got, err)
		}
	}
	path, err := l.Path(0, 3)
	if err != api.OK || len(path) != 2 || hex.EncodeToString(path[0][:]) != "7e1412e11137342f26b56142a95d2d655a5ba7179a67f4137431e2be36a3abb2" || hex.EncodeToString(path[1][:]) != "c59b18f95bcebe3736e2a6d513ee0bf9255918450ada20a6b2d2d2b14b37f906" {
		t.Errorf("Path(0, 3): %x, error %d", path, err)
	}
}

// repeated answers a digest of one byte, 32 times.
func repeated(c byte) api.Digest {
	var d api.Digest
	spoil(d[:], c)
	return d
}

// P21.2: a new ledger has no entries, whatever its key.
func TestNew(t *testing.T) {
	for _, key := range keys() {
		p := made(t, key)
		if n := p.l.Size(); n != 0 {
			t.Errorf("Size: %d", n)
		}
		if l := p.l.Texts(); len(l) != 0 {
			t.Errorf("Texts: %x", l)
		}
		p.stands(t)
		p.proves(t)
		p.adds(t, plain(0), api.OK)
		p.stands(t)
	}
}

// P21.2: each Job in its turn, from none to 64: Size is one more, and the text stands behind the others.
func TestAddInTurn(t *testing.T) {
	for _, key := range keys() {
		full := filled(t, key, mostEntries)
		p := made(t, key)
		for job := range mostEntries {
			text, _ := full.l.Text(job)
			e, err := entry.Decode(text)
			if err != api.OK || e.Job != job {
				t.Fatalf("Decode of %x: %v, error %d", text, e, err)
			}
			before := p.l.Texts()
			p.adds(t, e, api.OK)
			if n := p.l.Size(); n != job+1 {
				t.Fatalf("Size: %d, not %d", n, job+1)
			}
			want, _ := entry.Encode(e)
			if got := strs(p.l.Texts()); !slices.Equal(got, append(strs(before), string(want))) {
				t.Fatalf("Texts: %x", got)
			}
			p.texts(t)
			p.head(t, job+1)
		}
		p.stands(t)
	}
}

// P21.2: entries at their own limits.
func TestAddEdges(t *testing.T) {
	var all []int
	for at := range api.MaxOps {
		all = append(all, at)
	}
	p := made(t, row(5))
	for kind := api.Fits; kind <= api.OutTry; kind++ {
		for _, tries := range []int{0, 1, 127, 128, api.MaxTries} {
			for _, time := range []int{0, 128, api.MaxTime} {
				e := api.Entry{Job: p.l.Size(), Time: time, Verdict: api.Verdict{Kind: kind, Tries: tries}}
				if kind == api.Fits {
					e.Verdict.Order = all[:tries%65]
				}
				p.adds(t, e, api.OK)
			}
		}
	}
	p.adds(t, api.Entry{Job: 60, Verdict: api.Verdict{Kind: api.Fits, Order: all}}, api.OK)
	p.stands(t)
}

// P21.2: the same entry but for its Job may be added again and again.
func TestAddAlike(t *testing.T) {
	p := made(t, nil)
	for job := range mostEntries {
		p.adds(t, plain(job), api.OK)
		p.adds(t, plain(job), map[bool]api.Errno{true: api.ErrFull, false: api.ErrArg}[job == 63])
	}
	p.stands(t)
}

// P21.2, R2: where there are 64 an entry that can be is ErrFull, whatever its Job; one that can't be is entry.Check's error, and nothing is changed.
func TestAddFull(t *testing.T) {
	p := filled(t, row(64), mostEntries)
	for job := range mostEntries {
		p.adds(t, plain(job), api.ErrFull)
	}
	for _, e := range wrong(63) {
		p.adds(t, e, entry.Check(e))
		p.adds(t, e, api.ErrArg)
	}
	p.adds(t, plain(64), api.ErrArg)
	p.stands(t)
	p = filled(t, row(64), mostEntries-1)
	p.adds(t, plain(63), api.OK)
	p.adds(t, plain(63), api.ErrFull)
	p.stands(t)
}

// P21.2, R2: of a Job that is not how many there are ErrArg, and nothing is changed.
func TestAddOtherJob(t *testing.T) {
	for size := range mostEntries {
		p := filled(t, row(9), size)
		for job := -1; job <= 65; job++ {
			if job != size {
				p.adds(t, plain(job), api.ErrArg)
			}
		}
		for _, job := range []int{size - 64, size + 64, size + 256, size + 1<<32, least + size, least, greatest} {
			p.adds(t, plain(job), api.ErrArg)
		}
		p.stands(t)
		p.adds(t, plain(size), api.OK)
		p.texts(t)
	}
}

// P21.2, R2: of entries that can't be entry.Check's error, however many there are, and nothing is changed.
func TestAddWrong(t *testing.T) {
	for size := range mostEntries + 1 {
		p := filled(t, row(9), size)
		before, _ := p.l.Head(size)
		for _, e := range wrong(size) {
			if err := p.l.Add(e); err != entry.Check(e) || err != api.ErrArg {
				t.Fatalf("Add of %v to %d: error %d", e, size, err)
			}
			p.texts(t)
		}
		if h, _ := p.l.Head(size); h != before {
			t.Fatalf("Head(%d): %x, not %x", size, h, before)
		}
		p.stands(t)
	}
}

// P21.2: Text of each place, and of what is none.
func TestText(t *testing.T) {
	for _, size := range []int{0, 1, 2, 3, 63, 64} {
		p := filled(t, nil, size)
		for i := range size {
			if err := p.text(t, i); err != api.OK {
				t.Errorf("Text(%d) of %d: error %d", i, size, err)
			}
			b, _ := p.l.Text(i)
			if e, err := entry.Decode(b); err != api.OK || e.Job != i {
				t.Errorf("Text(%d) of %d: %x", i, size, b)
			}
		}
		for _, i := range []int{-1, size, size + 1, 64, 65, -64, 1 << 32, -1 << 32, least, least + 1, greatest - 1, greatest} {
			if b, err := p.l.Text(i); err != api.ErrNone || len(b) != 0 {
				t.Errorf("Text(%d) of %d: %x, error %d", i, size, b, err)
			}
		}
		p.texts(t)
	}
}

// P21.2: Texts of ledgers of each size: all, in their order.
func TestTexts(t *testing.T) {
	for size := range mostEntries + 1 {
		p := filled(t, row(3), size)
		l := p.l.Texts()
		if len(l) != size || p.l.Size() != size {
			t.Errorf("Texts of %d: %d, Size %d", size, len(l), p.l.Size())
		}
		for i, b := range l {
			if e, err := entry.Decode(b); err != api.OK || e.Job != i {
				t.Errorf("Texts of %d, at %d: %x", size, i, b)
			}
		}
		p.texts(t)
	}
}
