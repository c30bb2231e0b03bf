package wire_test

import (
	"fmt"
	"math/rand"
	"strconv"
	"strings"
	"testing"

	"inquest/api"
	"inquest/chunk"
	"inquest/wire"
)

func dec(n int) string { return strconv.Itoa(n) }

// P13.1: at each place of requests of every kind each of the 256 bytes, and what comes behind it.
func TestEachByteAtEachPlace(t *testing.T) {
	for _, c := range samples() {
		for at := range len(c.s) {
			for b := range 256 {
				r, m := fed(t, c.s[:at]), &model{came: c.s[:at]}
				for _, x := range []byte{byte(b), '\r', '\n', byte(b)} {
					whole, want := m.put(x)
					if done, e := r.Put(x); done != whole || e != want {
						t.Fatalf("%#x behind %q, and more: %v, error %d; not %v, error %d", b, c.s[:at], done, e, whole, want)
					}
				}
				x, ok := r.Take()
				if y, is := m.take(); flat(x) != y || ok != is {
					t.Fatalf("%#x behind %q, and more: %q, %v; not %q", b, c.s[:at], fmt.Sprint(flat(x)), ok, fmt.Sprint(y))
				}
			}
		}
	}
}

// P13.1, P13.2: the request is whole with its last byte and with no other; what is taken then, and that the reader begins anew.
func TestWholeWithLastByte(t *testing.T) {
	r := wire.New()
	for _, c := range append(samples(), longer()...) {
		fresh := wire.New()
		ends(t, fresh, c.s)
		takes(t, fresh, c.x)
		for range 2 {
			for i := range len(c.s) {
				idles(t, r, i == 0)
				takesNone(t, r)
				put(t, r, c.s[i], i == len(c.s)-1, api.OK)
			}
			idles(t, r, false)
			takes(t, r, c.x)
			idles(t, r, true)
			takesNone(t, r)
			idles(t, r, true)
		}
	}
}

// P13.1: bodies of every size that content-length may say, of any bytes.
func TestBodiesByLength(t *testing.T) {
	for n := range longBody + 1 {
		s := "PUT /a HTTP/1.1\r\nContent-Length: " + dec(n) + "\r\n\r\n" + row(n, n)
		r := wire.New()
		ends(t, r, s)
		put(t, r, 'x', false, api.ErrState)
		takes(t, r, asked{"PUT", "/a", "", row(n, n)})
	}
	for b := range 256 {
		body := strings.Repeat(string([]byte{byte(b)}), 3)
		judged(t, first+"content-length: 3\r\n\r\n"+body, told{asked{"GET", "/a", "", body}, len(first) + 24, api.OK})
	}
}

// P13.1: bodies in chunks of any size.
func TestBodiesInChunks(t *testing.T) {
	const head = "PUT /a HTTP/1.1\r\nTransfer-Encoding: chunked\r\n\r\n"
	for _, n := range []int{0, 1, 2, 15, 16, 17, 255, 256, 2047, longBody} {
		for _, size := range []int{1, 2, 3, 15, 16, 17, 255, 256, 1024, 2047, longBody} {
			r := wire.New()
			ends(t, r, head+inChunks(row(n, size), size))
			takes(t, r, asked{"PUT", "/a", "", row(n, size)})
		}
	}
}

// P13.1: chunk's errors within a body in chunks, at the byte at which chunk has them, most being 2048.
func TestChunkErrors(t *testing.T) {
	const head = "PUT /a HTTP/1.1\r\nTransfer-Encoding: chunked\r\n\r\n"
	for _, c := range []struct {
		body string
		want api.Errno
	}{
		{"g", api.ErrForm}, {"A", api.ErrForm}, {"\r", api.ErrForm}, {"\n", api.ErrForm}, {" ", api.ErrForm}, {"\x00", api.ErrForm}, {"00", api.ErrForm}, {"01", api.ErrForm}, {"0x", api.ErrForm}, {"0\n", api.ErrForm}, {"0\r\r", api.ErrForm}, {"0\r\nx", api.ErrForm}, {"0\r\n\n", api.ErrForm}, {"0\r\n\r\r", api.ErrForm},
		{"1;", api.ErrForm}, {"1\n", api.ErrForm}, {"1\r\r", api.ErrForm}, {"1\r\nxx", api.ErrForm}, {"1\r\nx\n", api.ErrForm}, {"1\r\nx\r\r", api.ErrForm}, {"1\r\nx\r\n\r", api.ErrForm}, {"1\r\nx\r\ng", api.ErrForm}, {"800g", api.ErrForm},
		{"801", api.ErrBig}, {"802", api.ErrBig}, {"900", api.ErrBig}, {"fff", api.ErrBig}, {"8000", api.ErrBig}, {"1000", api.ErrBig}, {"1\r\nx\r\n800", api.ErrBig},
		{"800\r\n" + row(longBody, 1) + "\r\n1", api.ErrBig}, {"7ff\r\n" + row(longBody-1, 1) + "\r\n2", api.ErrBig}, {"800\r\n" + row(longBody, 1) + "\r\ng", api.ErrForm},
	} {
		n := len(c.body) - 1
		r := fed(t, head+c.body[:n])
		put(t, r, c.body[n], false, c.want)
		put(t, r, '0', false, api.ErrState)
		takesNone(t, r)
		idles(t, r, false)
		if got := read(head + c.body); got != refused(c.want) {
			t.Errorf("%q: error %d", c.body, got.e)
		}
		if _, _, e := chunk.Whole([]byte(c.body), longBody); e != c.want {
			t.Errorf("chunk, of %q: error %d", c.body, e)
		}
	}
}

// P13.1: behind a whole request that was not taken, and behind an error, every byte is ErrState, and changes nothing.
func TestStateBehind(t *testing.T) {
	for _, c := range samples() {
		r := wire.New()
		ends(t, r, c.s)
		for b := range 256 {
			put(t, r, byte(b), false, api.ErrState)
		}
		for i := range len(c.s) {
			put(t, r, c.s[i], false, api.ErrState)
		}
		idles(t, r, false)
		takes(t, r, c.x)
		idles(t, r, true)
		ends(t, r, c.s)
		takes(t, r, c.x)
	}
	for _, s := range []string{
		"\x00", "\n", "\r\r", "get /a HTTP/1.1\r\n", first + "\n", first + "a\r\n", first + "content-length: 2049\r\n", first + "content-length: 02\r\n", strings.Repeat("x", longHead+1), first + strings.Repeat("a: \r\n", manyLines+1),
		first + "transfer-encoding: chunked\r\n\r\ng", first + "transfer-encoding: chunked\r\n\r\n801", first + "transfer-encoding: chunked\r\n\r\n1\r\nab",
	} {
		r := fed(t, s[:len(s)-1])
		if done, e := r.Put(s[len(s)-1]); done || e == api.OK || e == api.ErrState {
			t.Errorf("%.100q: %v, error %d", s, done, e)
		}
		for range 2 {
			for b := range 256 {
				put(t, r, byte(b), false, api.ErrState)
			}
			good := first + "\r\n"
			for i := range len(good) {
				put(t, r, good[i], false, api.ErrState)
			}
			takesNone(t, r)
			idles(t, r, false)
		}
	}
}

// P13.2: Take ahead of the end takes nothing away.
func TestTakeAhead(t *testing.T) {
	for _, c := range append(samples(), longer()...) {
		r := wire.New()
		for i := range len(c.s) - 1 {
			takesNone(t, r)
			put(t, r, c.s[i], false, api.OK)
			takesNone(t, r)
			idles(t, r, false)
		}
		put(t, r, c.s[len(c.s)-1], true, api.OK)
		takes(t, r, c.x)
		takesNone(t, r)
		idles(t, r, true)
	}
}

// P13.2: behind Take the reader begins anew: nothing of the request ahead is left.
func TestTakeBeginsAnew(t *testing.T) {
	full := first + "Authorization: Bearer t\r\nContent-Length: 3\r\n" + strings.Repeat("a: \r\n", manyLines-2) + "\r\nabc"
	long := first + "a: " + strings.Repeat("x", longHead-len(first)-7) + "\r\n\r\n"
	chunked := "POST /c HTTP/1.1\r\nTransfer-Encoding: chunked\r\nAuthorization: Bearer u\r\n\r\n3\r\nabc\r\n0\r\n\r\n"
	bare := "PUT /b HTTP/1.1\r\n\r\n"
	nought := "PUT /b HTTP/1.1\r\nContent-Length: 0\r\n\r\n"
	all := []sample{
		{full, asked{"GET", "/a", "t", "abc"}}, {long, asked{"GET", "/a", "", ""}}, {chunked, asked{"POST", "/c", "u", "abc"}}, {bare, asked{"PUT", "/b", "", ""}}, {nought, asked{"PUT", "/b", "", ""}},
	}
	for _, one := range all {
		for _, other := range all {
			for _, third := range all {
				r := wire.New()
				for _, c := range []sample{one, other, third} {
					ends(t, r, c.s)
					takes(t, r, c.x)
					idles(t, r, true)
				}
			}
		}
		// Counting begins anew as well: the bounds are met where they are for a new reader.
		r := wire.New()
		ends(t, r, one.s)
		takes(t, r, one.x)
		goesOn(t, r, strings.Repeat("x", longHead))
		put(t, r, 'x', false, api.ErrBig)
		takesNone(t, r)
		r = wire.New()
		ends(t, r, one.s)
		takes(t, r, one.x)
		goesOn(t, r, first+strings.Repeat("a: \r\n", manyLines)+"a: \r")
		put(t, r, '\n', false, api.ErrBig)
		r = wire.New()
		ends(t, r, one.s)
		takes(t, r, one.x)
		goesOn(t, r, "\r")
		put(t, r, '\n', false, api.ErrForm)
	}
}

// P13.2: Idle of a new reader, behind a byte, within a head and a body, behind the last byte, behind Take, behind an error.
func TestIdle(t *testing.T) {
	r := wire.New()
	idles(t, r, true)
	idles(t, r, true)
	takesNone(t, r)
	idles(t, r, true)
	s := "GET /a HTTP/1.1\r\nContent-Length: 2\r\n\r\nhi"
	for i := range len(s) {
		put(t, r, s[i], i == len(s)-1, api.OK)
		idles(t, r, false)
	}
	put(t, r, 'x', false, api.ErrState)
	idles(t, r, false)
	takes(t, r, asked{"GET", "/a", "", "hi"})
	idles(t, r, true)
	goesOn(t, r, "\r")
	idles(t, r, false)
	put(t, r, '\r', false, api.ErrForm)
	idles(t, r, false)
	put(t, r, '\r', false, api.ErrState)
	idles(t, r, false)
	for b := range 256 {
		r := wire.New()
		r.Put(byte(b))
		idles(t, r, false)
	}
}

// P13.1, P13.2: a reader that is nil, or that New did not make.
func TestReaderNotMade(t *testing.T) {
	var zero wire.Reader
	for _, r := range []*wire.Reader{nil, &zero, new(wire.Reader)} {
		idles(t, r, true)
		for b := range 256 {
			put(t, r, byte(b), false, api.ErrNil)
		}
		s := first + "\r\n"
		for i := range len(s) {
			put(t, r, s[i], false, api.ErrNil)
			takesNone(t, r)
			idles(t, r, true)
		}
	}
}

// pieces are parts of requests, good and bad, out of which rows are made by chance.
func pieces() []string {
	return []string{
		"GET /a HTTP/1.1\r\n", "PUT /b HTTP/1.1\r\n", "POST / HTTP/1.1\r\n", "get /a HTTP/1.1\r\n", "\r\n", "\r\n", "\r\n", "\r", "\n", "a: b\r\n", "a: \r\n", "ab\r\n", "X", " ", ":", "0\r\n\r\n", "1\r\nx\r\n", "2\r\nhi\r\n", "800\r\n", "801",
		"Authorization: Bearer t\r\n", "authorization: Bearer \r\n", "authorization: t\r\n", "Content-Length: 2\r\n", "content-length: 0\r\n", "content-length: 2049\r\n", "content-length: 02\r\n", "Transfer-Encoding: chunked\r\n", "transfer-encoding: gzip\r\n", "hi", "\x00", "\xff",
	}
}

// P13.1, P13.2: rows by chance, taken at once or later: each answer is that of the chapter's words.
func TestRowsByChance(t *testing.T) {
	rnd := rand.New(rand.NewSource(13))
	all, met := pieces(), map[api.Errno]int{}
	for range 30000 {
		r, m := wire.New(), &model{}
		s := ""
		for range 1 + rnd.Intn(14) {
			s += all[rnd.Intn(len(all))]
		}
		if rnd.Intn(4) > 0 {
			s = all[rnd.Intn(3)] + s
		}
		for i := range len(s) {
			whole, want := m.put(s[i])
			done, e := r.Put(s[i])
			if done != whole || e != want {
				t.Fatalf("byte %d of %q: %v, error %d; not %v, error %d", i, s, done, e, whole, want)
			}
			met[e]++
			if rnd.Intn(8) > 0 && !done {
				continue
			}
			idles(t, r, m.idle())
			x, ok := r.Take()
			if y, is := m.take(); flat(x) != y || ok != is {
				t.Fatalf("behind byte %d of %q: %q, %v; not %q, %v", i, s, fmt.Sprint(flat(x)), ok, fmt.Sprint(y), is)
			}
			idles(t, r, m.idle())
		}
	}
	for _, e := range []api.Errno{api.OK, api.ErrForm, api.ErrBig, api.ErrState} {
		if met[e] < 100 {
			t.Errorf("error %d was met %d times", e, met[e])
		}
	}
}

// R4: two readers know nothing of one another.
func TestTwoReaders(t *testing.T) {
	all := append(samples(), longer()...)
	for k, one := range all {
		other := all[(k+1)%len(all)]
		r, q := wire.New(), wire.New()
		for i := range max(len(one.s), len(other.s)) {
			if i < len(one.s) {
				put(t, r, one.s[i], i == len(one.s)-1, api.OK)
			}
			if i < len(other.s) {
				put(t, q, other.s[i], i == len(other.s)-1, api.OK)
			}
		}
		takes(t, q, other.x)
		takes(t, r, one.x)
		put(t, q, 0, false, api.ErrForm)
		ends(t, r, one.s)
		takes(t, r, one.x)
	}
}

// R3: what is taken is nobody else's: neither the reader's nor another request's.
func TestTakeMemory(t *testing.T) {
	for _, c := range append(samples(), longer()...) {
		r := wire.New()
		ends(t, r, c.s)
		one, _ := r.Take()
		ends(t, r, c.s)
		if flat(one) != c.x {
			t.Errorf("%.100q: the next request changed what was taken", c.s)
		}
		spoil(one.Body)
		takes(t, r, c.x)
		goesOn(t, r, c.s[:len(c.s)-1])
		spoil(one.Body)
		put(t, r, c.s[len(c.s)-1], true, api.OK)
		spoil(one.Body)
		other, _ := r.Take()
		if flat(other) != c.x || ownTwice(one.Body, other.Body) {
			t.Errorf("%.100q: what was taken hangs together", c.s)
		}
	}
}
