package wire_test

import (
	"bytes"
	"fmt"
	"math"
	"math/rand"
	"sort"
	"strings"
	"testing"

	"inquest/api"
	"inquest/wire"
)

const longReply = 8192

// reasons answers the codes that there are, with their reasons, as the chapter lists them.
func reasons() map[int]string {
	return map[int]string{
		200: "OK", 400: "Bad Request", 401: "Unauthorized", 403: "Forbidden", 404: "Not Found", 405: "Method Not Allowed", 409: "Conflict", 413: "Content Too Large",
		422: "Unprocessable Content", 429: "Too Many Requests", 503: "Service Unavailable", 507: "Insufficient Storage",
	}
}

// codes answers the codes that there are, in their order.
func codes() []int {
	var l []int
	for code := range reasons() {
		l = append(l, code)
	}
	sort.Ints(l)
	return l
}

// others answers numbers that are no code.
func others() []int {
	l := []int{math.MinInt, math.MinInt + 1, -507, -200, -1, 0, 1, 2, 20, 100, 1200, 2000, 4000, 20000, 200 + 1<<8, 200 + 1<<16, 200 + 1<<32, math.MaxInt32, math.MaxInt - 1, math.MaxInt}
	for n := -600; n <= 1200; n++ {
		if reasons()[n] == "" {
			l = append(l, n)
		}
	}
	return l
}

// headWith answers the bytes of an answer ahead of its body, with whatever code and reason.
func headWith(code int, reason string, n int) string {
	return fmt.Sprintf("HTTP/1.1 %d %s\r\nContent-Length: %d\r\n\r\n", code, reason, n)
}

// headOf answers those of a code that there is.
func headOf(code, n int) string { return headWith(code, reasons()[code], n) }

// replies is what all answers can be: their bytes ahead of the body, in order, each with its code and length.
type replies struct {
	heads []string
	said  map[string][2]int
}

func allReplies() replies {
	a := replies{said: map[string][2]int{}}
	for code, reason := range reasons() {
		for n := range longReply + 1 {
			s := headWith(code, reason, n)
			a.heads, a.said[s] = append(a.heads, s), [2]int{code, n}
		}
	}
	sort.Strings(a.heads)
	return a
}

// reply is what ReadAnswer answers.
type reply struct {
	code int
	body string
	n    int
	e    api.Errno
}

func noReply(e api.Errno) reply { return reply{e: e} }

// read answers what ReadAnswer has to answer, by the chapter's words.
func (a replies) read(s string) reply {
	i := sort.SearchStrings(a.heads, s)
	if i < len(a.heads) && strings.HasPrefix(a.heads[i], s) && a.heads[i] != s {
		return noReply(api.ErrShort)
	}
	head, body, _ := strings.Cut(s, "\r\n\r\n")
	said, ok := a.said[head+"\r\n\r\n"]
	if !ok {
		return noReply(api.ErrForm)
	}
	if len(body) < said[1] {
		return noReply(api.ErrShort)
	}
	return reply{said[0], body[:said[1]], len(head) + 4 + said[1], api.OK}
}

// got does ReadAnswer.
func got(s string) reply {
	code, body, n, e := wire.ReadAnswer([]byte(s))
	return reply{code, string(body), n, e}
}

// answered holds ReadAnswer against what is asked for, and against the chapter's words.
func answered(t *testing.T, a replies, s string, want reply) {
	t.Helper()
	if is := got(s); is != want {
		t.Errorf("ReadAnswer(%.200q): %d, %.50q, %d, error %d; not %d, %.50q, %d, error %d", s, is.code, is.body, is.n, is.e, want.code, want.body, want.n, want.e)
	}
	if by := a.read(s); by != want {
		t.Errorf("the chapter's words, of %.200q: %d, %.50q, %d, error %d; not %d, %.50q, %d, error %d", s, by.code, by.body, by.n, by.e, want.code, want.body, want.n, want.e)
	}
}

// P13.4: Reason of the twelve codes, and of all others.
func TestReason(t *testing.T) {
	if len(codes()) != 12 {
		t.Fatal(codes())
	}
	for code, want := range reasons() {
		if s := wire.Reason(code); s != want {
			t.Errorf("Reason(%d): %q, not %q", code, s, want)
		}
	}
	for _, code := range others() {
		if s := wire.Reason(code); s != "" {
			t.Errorf("Reason(%d): %q", code, s)
		}
	}
}

// P13.4: Answer of each code, byte by byte.
func TestAnswer(t *testing.T) {
	for code, reason := range reasons() {
		for _, n := range []int{0, 1, 2, 9, 10, 11, 99, 100, 999, 1000, 2048, 2049, 8191, 8192} {
			want := "HTTP/1.1 " + dec(code) + " " + reason + "\r\nContent-Length: " + dec(n) + "\r\n\r\n" + row(n, code)
			if b, e := wire.Answer(code, []byte(row(n, code))); string(b) != want || e != api.OK {
				t.Errorf("Answer(%d, %d bytes): %.100q, error %d", code, n, b, e)
			}
		}
		for _, n := range []int{8193, 8194, 16384, 100000} {
			if b, e := wire.Answer(code, make([]byte, n)); b != nil || e != api.ErrBig {
				t.Errorf("Answer(%d, %d bytes): %.100q, error %d", code, n, b, e)
			}
		}
		if b, e := wire.Answer(code, nil); string(b) != headOf(code, 0) || e != api.OK {
			t.Errorf("Answer(%d, none): %.100q, error %d", code, b, e)
		}
	}
	b, e := wire.Answer(507, []byte("\r\n\x00\xff"))
	if string(b) != "HTTP/1.1 507 Insufficient Storage\r\nContent-Length: 4\r\n\r\n\r\n\x00\xff" || e != api.OK {
		t.Errorf("%q, error %d", b, e)
	}
}

// P13.4: Answer of what is no code: ErrArg ahead of ErrBig.
func TestAnswerNone(t *testing.T) {
	for _, code := range others() {
		for _, n := range []int{0, 1, 8192, 8193} {
			if b, e := wire.Answer(code, make([]byte, n)); b != nil || e != api.ErrArg {
				t.Errorf("Answer(%d, %d bytes): %.100q, error %d", code, n, b, e)
			}
		}
	}
}

// P13.5: what Answer makes is read, with and without bytes behind it, and each beginning of it is too short.
func TestReadAnswer(t *testing.T) {
	a := allReplies()
	answered(t, a, "", noReply(api.ErrShort))
	if code, body, n, e := wire.ReadAnswer(nil); code != 0 || body != nil || n != 0 || e != api.ErrShort {
		t.Error(code, body, n, e)
	}
	for _, code := range codes() {
		for _, n := range []int{0, 1, 2, 9, 10, 99, 100, 819, 999, 1000, 2049, 8191, 8192} {
			made, _ := wire.Answer(code, []byte(row(n, n)))
			s := string(made)
			for _, behind := range []string{"", "x", "\x00", "\r\n", "0", headOf(200, 0), s} {
				answered(t, a, s+behind, reply{code, row(n, n), len(s), api.OK})
			}
			for k := range len(s) {
				if k > 80 && k < len(s)-20 && k%97 != 0 {
					continue
				}
				answered(t, a, s[:k], noReply(api.ErrShort))
			}
		}
	}
}

// P13.5: beside an error all else is zero.
func TestReadAnswerZeros(t *testing.T) {
	for _, s := range []string{"", "H", "h", "HTTP/1.1 200 OK\r\nContent-Length: 2\r\n\r\nh", "HTTP/1.1 200 OK\r\nContent-Length: ", "HTTP/1.1 200 OK\r\nContent-Length: 2\r\n", "HTTP/1.1 200 OK\r\nContent-Length: 2x", "HTTP/1.1 200 OK\r\nContent-Length: 02", "HTTP/1.1 200 OK\r\nContent-Length: 8193"} {
		if code, body, n, e := wire.ReadAnswer([]byte(s)); code != 0 || body != nil || n != 0 || e == api.OK {
			t.Errorf("ReadAnswer(%q): %d, %q, %d, error %d", s, code, body, n, e)
		}
	}
}

// P13.5: the lengths that an answer may say, and others, to their end and cut off.
func TestReadAnswerLengths(t *testing.T) {
	a := allReplies()
	for _, code := range codes() {
		fore := strings.TrimSuffix(headOf(code, 0), "0\r\n\r\n")
		answered(t, a, fore, noReply(api.ErrShort))
		for n := range longReply + 1 {
			s := fore + dec(n)
			if n%(1+code%7) == 0 || n > 8000 || n < 300 {
				for _, more := range []string{"", "\r", "\r\n", "\r\n\r"} {
					answered(t, a, s+more, noReply(api.ErrShort))
				}
				for _, more := range []string{"x", " ", "\n", "\r\r", "\r\nx", "\r\n\n", "\r\n\rx", "\r\n\r\r", ",", ".", "\x00"} {
					answered(t, a, s+more, noReply(api.ErrForm))
				}
				answered(t, a, fore+"0"+dec(n), noReply(api.ErrForm))
				if n > 0 {
					answered(t, a, s+"\r\n\r\n"+strings.Repeat("b", n-1), noReply(api.ErrShort))
				}
				answered(t, a, s+"\r\n\r\n"+strings.Repeat("b", n+1), reply{code, strings.Repeat("b", n), len(s) + 4 + n, api.OK})
			}
		}
		for _, length := range []string{
			"8193", "8194", "8199", "8200", "8202", "8300", "9000", "9999", "10000", "81920", "81921", "65536", "65538", "4294967296", "4294967298", "9223372036854775807", "9223372036854775808", "18446744073709551616", "18446744073709551618", strings.Repeat("9", 100), "1" + strings.Repeat("0", 2000),
			"00", "01", "02", "007", "08192", "-", "-1", "-0", "+", "+1", "+0", " ", " 1", "a", "0x", "0x1", "1e1", "1_0", "\r", "\r\n", "\n", "\x00", "\xff", "/", ":",
		} {
			for _, more := range []string{"", "\r", "\r\n\r\n", "\r\n\r\nbody"} {
				answered(t, a, fore+length+more, noReply(api.ErrForm))
			}
		}
		for b := range 256 {
			want := api.ErrForm
			if b >= '0' && b <= '9' {
				want = api.ErrShort
			}
			answered(t, a, fore+string([]byte{byte(b)}), noReply(want))
			for _, digits := range []string{"1", "81", "819"} {
				want := api.ErrForm
				if b >= '0' && b <= '9' && (digits != "819" || b <= '2') || b == '\r' {
					want = api.ErrShort
				}
				answered(t, a, fore+digits+string([]byte{byte(b)}), noReply(want))
			}
			want = api.ErrForm
			if b == '\r' {
				want = api.ErrShort
			}
			// Behind a nought no digit may stand; behind the others one more would say too much.
			for _, digits := range []string{"0", "820", "999", "1000", "8192"} {
				answered(t, a, fore+digits+string([]byte{byte(b)}), noReply(want))
			}
		}
	}
}

// P13.5: another code's reason, other codes, other words.
func TestReadAnswerStatus(t *testing.T) {
	a := allReplies()
	for _, code := range codes() {
		for _, other := range codes() {
			s := headWith(code, reasons()[other], 0)
			want := noReply(api.ErrForm)
			if code == other {
				want = reply{code, "", len(s), api.OK}
			}
			answered(t, a, s, want)
		}
	}
	for _, code := range others() {
		for _, reason := range []string{"", "OK", "Not Found"} {
			answered(t, a, headWith(code, reason, 0), noReply(api.ErrForm))
		}
	}
	for _, s := range []string{
		"http/1.1 200 OK\r\nContent-Length: 0\r\n\r\n", "HTTP/1.0 200 OK\r\nContent-Length: 0\r\n\r\n", "HTTP/1.1 200 ok\r\nContent-Length: 0\r\n\r\n", "HTTP/1.1  200 OK\r\nContent-Length: 0\r\n\r\n", "HTTP/1.1 200  OK\r\nContent-Length: 0\r\n\r\n", "HTTP/1.1 200 OK \r\nContent-Length: 0\r\n\r\n", "HTTP/1.1 200\r\nContent-Length: 0\r\n\r\n", "HTTP/1.1 200 \r\nContent-Length: 0\r\n\r\n",
		"HTTP/1.1 200 OK\r\ncontent-length: 0\r\n\r\n", "HTTP/1.1 200 OK\r\nContent-Length:0\r\n\r\n", "HTTP/1.1 200 OK\r\nContent-Length: 0 \r\n\r\n", "HTTP/1.1 200 OK\r\nContent-Length:  0\r\n\r\n", "HTTP/1.1 200 OK\r\nContent-Length: 0\r\nA: b\r\n\r\n", "HTTP/1.1 200 OK\r\nA: b\r\nContent-Length: 0\r\n\r\n", "HTTP/1.1 200 OK\r\n\r\n", "HTTP/1.1 200 OK\nContent-Length: 0\n\n", "HTTP/1.1 200 OK\r\nContent-Length: 0\r\nContent-Length: 0\r\n\r\n", "HTTP/1.1 200 OK\r\nTransfer-Encoding: chunked\r\n\r\n0\r\n\r\n",
		" HTTP/1.1 200 OK\r\nContent-Length: 0\r\n\r\n", "\r\nHTTP/1.1 200 OK\r\nContent-Length: 0\r\n\r\n", "GET /a HTTP/1.1\r\n\r\n", "\x00", "x", "HTTP/1.1 0200 OK\r\nContent-Length: 0\r\n\r\n", "HTTP/1.1 +200 OK\r\nContent-Length: 0\r\n\r\n",
	} {
		answered(t, a, s, noReply(api.ErrForm))
	}
	for _, s := range []string{"H", "HTTP/1.1", "HTTP/1.1 ", "HTTP/1.1 2", "HTTP/1.1 4", "HTTP/1.1 40", "HTTP/1.1 42", "HTTP/1.1 5", "HTTP/1.1 50", "HTTP/1.1 507", "HTTP/1.1 507 ", "HTTP/1.1 409 C", "HTTP/1.1 413 Content", "HTTP/1.1 200 OK\r", "HTTP/1.1 200 OK\r\n", "HTTP/1.1 503 Service Unavailable\r\nContent-Length:"} {
		answered(t, a, s, noReply(api.ErrShort))
	}
	for _, s := range []string{"HTTP/1.1 1", "HTTP/1.1 3", "HTTP/1.1 6", "HTTP/1.1 43", "HTTP/1.1 51", "HTTP/1.1 402", "HTTP/1.1 500", "HTTP/1.1 409 F", "HTTP/1.1 413 Conflict"} {
		answered(t, a, s, noReply(api.ErrForm))
	}
}

// P13.5: with one byte changed at each place, each of the 256, to the end and cut off behind it.
func TestReadAnswerChanged(t *testing.T) {
	a, met := allReplies(), map[api.Errno]int{}
	for _, code := range codes() {
		for _, n := range []int{0, 3, 12, 8192} {
			head := headOf(code, n)
			made := head + strings.Repeat("b", n)
			for at := range len(head) {
				for b := range 256 {
					changed := made[:at] + string([]byte{byte(b)}) + made[at+1:min(len(made), len(head)+20)]
					for _, s := range []string{changed, changed[:at+1]} {
						want := a.read(s)
						if is := got(s); is != want {
							t.Fatalf("ReadAnswer(%.200q): %d, %.50q, %d, error %d; not %d, %.50q, %d, error %d", s, is.code, is.body, is.n, is.e, want.code, want.body, want.n, want.e)
						}
						met[want.e]++
					}
				}
			}
		}
		// In a body each byte is as good as another one.
		for b := range 256 {
			body := "a" + string([]byte{byte(b)}) + "c"
			answered(t, a, headOf(code, 3)+body, reply{code, body, len(headOf(code, 3)) + 3, api.OK})
		}
	}
	for _, e := range []api.Errno{api.OK, api.ErrShort, api.ErrForm} {
		if met[e] < 1000 {
			t.Errorf("error %d was met %d times", e, met[e])
		}
	}
}

// P13.5: answers one behind the other.
func TestReadAnswerRow(t *testing.T) {
	rnd := rand.New(rand.NewSource(5))
	for range 200 {
		s, want := "", []reply{}
		for range 1 + rnd.Intn(5) {
			code, n := codes()[rnd.Intn(12)], rnd.Intn(30)
			b, _ := wire.Answer(code, []byte(row(n, n)))
			s, want = s+string(b), append(want, reply{code, row(n, n), len(b), api.OK})
		}
		for _, w := range want {
			if is := got(s); is != w {
				t.Fatalf("%q: %v, not %v", s, is, w)
			}
			s = s[w.n:]
		}
		if is := got(s); is != noReply(api.ErrShort) {
			t.Fatal(is)
		}
	}
}

// R3: Answer and ReadAnswer change nothing of what they were handed, keep nothing of it, and their answers are nobody else's.
func TestAnswerMemory(t *testing.T) {
	for _, code := range []int{200, 507, 201} {
		for _, n := range []int{0, 1, 2, 100, 8192, 8193} {
			b, room := roomy(row(n, n))
			was := bytes.Clone(room)
			one, _ := wire.Answer(code, b)
			other, _ := wire.Answer(code, b)
			if !bytes.Equal(room, was) {
				t.Errorf("Answer(%d, %d bytes) changed what it was handed", code, n)
			}
			if ownTwice(one, other) || ownTwice(room, one) || ownTwice(one, room) {
				t.Errorf("Answer(%d, %d bytes) shares memory", code, n)
			}
			clear(room)
			want := ""
			if code != 201 && n <= longReply {
				want = headOf(code, n) + row(n, n)
			}
			if string(one) != want {
				t.Errorf("Answer(%d, %d bytes) hangs on what it was handed", code, n)
			}
			spoil(one)
			if again, _ := wire.Answer(code, []byte(row(n, n))); string(again) != want {
				t.Errorf("Answer(%d, %d bytes) hangs on what it answered", code, n)
			}
		}
	}
}

func TestReadAnswerMemory(t *testing.T) {
	for _, n := range []int{0, 1, 2, 100, 8192} {
		for _, s := range []string{headOf(422, n) + row(n, n), headOf(422, n) + row(n, n) + "behind", headOf(422, n+1) + row(n, n), "x" + row(n, n)} {
			want := got(s)
			b, room := roomy(s)
			was := bytes.Clone(room)
			code, one, k, e := wire.ReadAnswer(b)
			_, other, _, _ := wire.ReadAnswer(b)
			if !bytes.Equal(room, was) {
				t.Errorf("ReadAnswer of %.100q changed what it was handed", s)
			}
			if ownTwice(one, other) || ownTwice(room, one) || ownTwice(one, room) {
				t.Errorf("ReadAnswer of %.100q shares memory", s)
			}
			clear(room)
			if (reply{code, string(one), k, e}) != want {
				t.Errorf("ReadAnswer of %.100q hangs on what it was handed", s)
			}
			spoil(one)
			if got(s) != want {
				t.Errorf("ReadAnswer of %.100q hangs on what it answered", s)
			}
		}
	}
}
