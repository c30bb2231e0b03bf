package hist

import (
	"inquest/api"
	"inquest/word"
)

const (
	mostEvents = 2 * api.MaxOps       // a call and an answer of each operation
	topClient  = 2*api.MaxClients - 1 // the client's byte of the last client's call
	topKind    = api.MaxKinds - 1
)

// Encode answers a history's text.
func Encode(l []api.Event) ([]byte, api.Errno) {
	if _, e := Check(l); e != api.OK {
		return nil, e
	}
	b := word.Var(uint64(len(l)))
	for _, v := range l {
		if v.Call {
			b = append(b, byte(2*v.Client+1), byte(v.Op))
		} else {
			b = append(b, byte(2*v.Client))
		}
		b = append(b, word.Var(word.Zig(v.Val))...)
	}
	return b, api.OK
}

// Decode answers the history that a text says.
func Decode(b []byte) ([]api.Event, api.Errno) {
	l, behind, e := readEvents(b)
	if e != api.OK {
		return nil, e
	}
	if len(behind) > 0 {
		return nil, api.ErrRest
	}
	if _, e := Check(l); e != api.OK {
		return nil, e
	}
	return l, api.OK
}

// readEvents reads how many events there are, and these, and answers what stands behind them, too.
func readEvents(b []byte) ([]api.Event, []byte, api.Errno) {
	n, b, e := readNumber(b)
	if e != api.OK {
		return nil, nil, e
	}
	if n > mostEvents {
		return nil, nil, api.ErrBig
	}
	l := make([]api.Event, n)
	for i := range l {
		l[i], b, e = readEvent(b)
		if e != api.OK {
			return nil, nil, e
		}
	}
	return l, b, api.OK
}

// readEvent reads one event.
func readEvent(b []byte) (api.Event, []byte, api.Errno) {
	who, b, e := readByte(b, topClient)
	if e != api.OK {
		return api.Event{}, nil, e
	}
	v := api.Event{Client: who / 2, Call: who%2 == 1}
	if v.Call {
		v.Op, b, e = readByte(b, topKind)
		if e != api.OK {
			return api.Event{}, nil, e
		}
	}
	u, b, e := readNumber(b)
	if e != api.OK {
		return api.Event{}, nil, e
	}
	v.Val = word.Zag(u)
	return v, b, api.OK
}

// readByte reads a byte that is no greater than top.
func readByte(b []byte, top int) (int, []byte, api.Errno) {
	if len(b) == 0 {
		return 0, nil, api.ErrShort
	}
	if int(b[0]) > top {
		return 0, nil, api.ErrForm
	}
	return int(b[0]), b[1:], api.OK
}

// readNumber reads a short number.
func readNumber(b []byte) (uint64, []byte, api.Errno) {
	u, n, e := word.ReadVar(b)
	return u, b[n:], e
}
