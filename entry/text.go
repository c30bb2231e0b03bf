package entry

import (
	"inquest/api"
	"inquest/word"
)

// Encode answers an entry's text.
func Encode(e api.Entry) ([]byte, api.Errno) {
	if err := Check(e); err != api.OK {
		return nil, err
	}
	b := word.Var(uint64(e.Job))
	b = append(b, word.Var(uint64(e.Time))...)
	b = append(b, e.History[:]...)
	b = append(b, e.Spec[:]...)
	b = append(b, byte(e.Verdict.Kind))
	b = append(b, word.Var(uint64(e.Verdict.Tries))...)
	b = append(b, word.Var(uint64(len(e.Verdict.Order)))...)
	for _, at := range e.Verdict.Order {
		b = append(b, byte(at))
	}
	return b, api.OK
}

// Decode answers the entry that a text says.
func Decode(b []byte) (api.Entry, api.Errno) {
	r := reader{left: b}
	e := r.entry()
	if r.bad || len(r.left) > 0 || Check(e) != api.OK {
		return api.Entry{}, api.ErrForm
	}
	return e, api.OK
}

// reader reads a text from the left. What it answers once it is bad says nothing.
type reader struct {
	left []byte
	bad  bool
}

// entry reads all of an entry; whether it can be is not asked.
func (r *reader) entry() api.Entry {
	var e api.Entry
	e.Job = r.number(topJob)
	e.Time = r.number(api.MaxTime)
	e.History = r.digest()
	e.Spec = r.digest()
	e.Verdict.Kind = r.one()
	e.Verdict.Tries = r.number(api.MaxTries)
	for _, at := range r.take(r.number(api.MaxOps)) {
		e.Verdict.Order = append(e.Verdict.Order, int(at))
	}
	return e
}

// number reads a short number. The bound is asked ahead of the conversion: of a number of 64 bits it could come out below 0.
func (r *reader) number(most uint64) int {
	x, n, err := word.ReadVar(r.left)
	if err != api.OK || !within(x, 0, most) {
		r.bad = true
		return 0
	}
	r.left = r.left[n:]
	return int(x)
}

// one reads a byte.
func (r *reader) one() int {
	b := r.take(1)
	if r.bad {
		return 0
	}
	return int(b[0])
}

// digest reads a digest.
func (r *reader) digest() api.Digest {
	var d api.Digest
	copy(d[:], r.take(len(d)))
	return d
}

// take reads so many bytes, which are still the text's own memory.
func (r *reader) take(n int) []byte {
	if n > len(r.left) {
		r.bad = true
		return nil
	}
	b := r.left[:n]
	r.left = r.left[n:]
	return b
}
