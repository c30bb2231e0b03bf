package code

import (
	"inquest/api"
	"inquest/word"
)

// hasNumber tells whether N stands in an instruction's text: of all others it is 0.
func hasNumber(op int) bool {
	return op == api.IPush || op == api.ILoad || op == api.IStore || jumps(op)
}

// Encode answers code's text.
func Encode(l []api.Ins) ([]byte, api.Errno) {
	if _, e := Check(l); e != api.OK {
		return nil, e
	}
	b := word.Var(uint64(len(l)))
	for _, v := range l {
		b = append(b, byte(v.Op))
		if hasNumber(v.Op) {
			b = append(b, word.Var(word.Zig(v.N))...)
		}
	}
	return b, api.OK
}

// Decode answers the code that a text says.
func Decode(b []byte) ([]api.Ins, api.Errno) {
	l, behind, e := readAll(b)
	if e != api.OK {
		return nil, e
	}
	if len(behind) > 0 {
		return nil, api.ErrRest
	}
	if _, e := Check(l); e != api.OK {
		return nil, e
	}
	return l, api.OK
}

// readAll reads how many instructions there are, and these, and answers what stands behind them, too.
func readAll(b []byte) ([]api.Ins, []byte, api.Errno) {
	n, b, e := readNumber(b)
	if e != api.OK {
		return nil, nil, e
	}
	// This stands ahead of making room, so that no number asks for more than code can have.
	if n > api.MaxCode {
		return nil, nil, api.ErrBig
	}
	l := make([]api.Ins, n)
	for i := range l {
		l[i], b, e = readOne(b)
		if e != api.OK {
			return nil, nil, e
		}
	}
	return l, b, api.OK
}

// readOne reads one instruction.
func readOne(b []byte) (api.Ins, []byte, api.Errno) {
	if len(b) == 0 {
		return api.Ins{}, nil, api.ErrShort
	}
	v := api.Ins{Op: int(b[0])}
	if Takes(v.Op) < 0 {
		return api.Ins{}, nil, api.ErrCode
	}
	if !hasNumber(v.Op) {
		return v, b[1:], api.OK
	}
	u, b, e := readNumber(b[1:])
	if e != api.OK {
		return api.Ins{}, nil, e
	}
	v.N = word.Zag(u)
	return v, b, api.OK
}

// readNumber reads a short number.
func readNumber(b []byte) (uint64, []byte, api.Errno) {
	u, n, e := word.ReadVar(b)
	return u, b[n:], e
}
