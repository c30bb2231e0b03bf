package wire_test

import (
	"bytes"
	"fmt"
	"strings"
	"testing"

	"inquest/api"
	"inquest/wire"
)

// The chapter's examples.
func TestExamples(t *testing.T) {
	judged(t, "GET /a HTTP/1.1\r\n\r\n", told{asked{"GET", "/a", "", ""}, 19, api.OK})
	judged(t, "GET /a HTTP/1.1\r\ncontent-length: 2\r\n\r\nhi", told{asked{"GET", "/a", "", "hi"}, 40, api.OK})
	judged(t, "GET /a HTTP/1.1\r\nContent-Length: 02\r\n", refused(api.ErrForm))
	judged(t, "GET /a HTTP/1.1\r\nContent-Length: 02\r", refused(api.ErrShort))
	judged(t, "GET /a HTTP/1.1\r\nContent-Length: 2049\r\n", refused(api.ErrBig))
	judged(t, "GET /a HTTP/1.1\r\nContent-Length: 2049\r", refused(api.ErrShort))
	judged(t, "get /a HTTP/1.1\r\n", refused(api.ErrForm))
	judged(t, "get /a HTTP/1.1\r", refused(api.ErrShort))
	b, e := wire.Answer(200, []byte("hi"))
	if string(b) != "HTTP/1.1 200 OK\r\nContent-Length: 2\r\n\r\nhi" || e != api.OK {
		t.Errorf("%q, error %d", b, e)
	}
}

// P13.3: Whole of requests of every kind, with and without bytes behind them, and of each beginning.
func TestWhole(t *testing.T) {
	if x, n, e := wire.Whole(nil); flat(x) != (asked{}) || n != 0 || e != api.ErrShort {
		t.Error(x, n, e)
	}
	judged(t, "", refused(api.ErrShort))
	for _, c := range append(samples(), longer()...) {
		want := told{c.x, len(c.s), api.OK}
		if by := wholly(c.s, 0); by != want {
			t.Errorf("the chapter's words, of %.200q: %.200q", c.s, fmt.Sprint(by))
		}
		for _, behind := range []string{"", "\x00", "\n", "\r\n", " ", "G", "x", "\xff", c.s, c.s[:len(c.s)-1], row(300, 5), strings.Repeat("x", 3000)} {
			if got := read(c.s + behind); got != want {
				t.Errorf("%.200q with %.50q behind: %.200q", c.s, behind, fmt.Sprint(got))
			}
		}
		for n := range len(c.s) {
			if got := read(c.s[:n]); got != refused(api.ErrShort) {
				t.Fatalf("the first %d bytes of %.200q: %.200q", n, c.s, fmt.Sprint(got))
			}
		}
	}
}

// P13.3: Whole with one byte changed at each place: the error of the first Put that has one, else what it is then.
func TestWholeChanged(t *testing.T) {
	met := map[api.Errno]int{}
	for _, c := range samples() {
		for at := range len(c.s) {
			was := c.s[at]
			for _, b := range []byte{was ^ 1, was ^ 2, was ^ 4, was ^ 0x20, was ^ 0x80, was + 1, was - 1, 0, 31, 127, '\r', '\n', ' ', ':', '-', '/', '0', '1', '9', 'a', 'B'} {
				s := c.s[:at] + string([]byte{b}) + c.s[at+1:]
				want := wholly(s, at)
				if got := read(s); got != want {
					t.Fatalf("Whole of %q: %q; not %q", s, fmt.Sprint(got), fmt.Sprint(want))
				}
				met[want.e]++
			}
		}
	}
	for _, e := range []api.Errno{api.OK, api.ErrShort, api.ErrForm} {
		if met[e] < 20 {
			t.Errorf("error %d was met %d times", e, met[e])
		}
	}
}

// P13.3: Whole with one byte too much or too little at each place.
func TestWholeShifted(t *testing.T) {
	for _, c := range samples() {
		for at := range len(c.s) {
			cut := c.s[:at] + c.s[at+1:]
			if got, want := read(cut), wholly(cut, at); got != want {
				t.Fatalf("Whole of %q: %q; not %q", cut, fmt.Sprint(got), fmt.Sprint(want))
			}
			for _, more := range []string{c.s[at : at+1], " ", "\r\n", "0", "a"} {
				s := c.s[:at] + more + c.s[at:]
				if got, want := read(s), wholly(s, at); got != want {
					t.Fatalf("Whole of %q: %q; not %q", s, fmt.Sprint(got), fmt.Sprint(want))
				}
			}
		}
	}
}

// P13.3: Whole answers the first error, whatever stands behind it.
func TestWholeFirstError(t *testing.T) {
	for _, c := range []struct {
		s    string
		want api.Errno
	}{
		{"\x00", api.ErrForm},
		{"get /a HTTP/1.1\r\ncontent-length: 2049\r\n", api.ErrForm},
		{first + "content-length: 2049\r\n\x00", api.ErrBig},
		{first + "content-length: 2049\r\nab\r\n", api.ErrBig},
		{first + "ab\r\ncontent-length: 2049\r\n", api.ErrForm},
		{first + "content-length: 02\r\ncontent-length: 2049\r\n", api.ErrForm},
		{first + "transfer-encoding: chunked\r\n\r\n801\r\n", api.ErrBig},
		{first + "transfer-encoding: chunked\r\n\r\n1\r\nab\r\n801", api.ErrForm},
		{first + strings.Repeat("a: \r\n", 17) + "\x00", api.ErrBig},
		{strings.Repeat("x", 1025) + "\x00", api.ErrBig},
	} {
		judged(t, c.s, refused(c.want))
		judged(t, c.s+first+"\r\n", refused(c.want))
	}
}

// written answers what Print has to answer, by the chapter's words: the bytes, and whether they are x to their end.
func written(x asked) (string, api.Errno) {
	s := x.method + " " + x.target + " HTTP/1.1\r\n"
	if x.token != "" {
		s += "Authorization: Bearer " + x.token + "\r\n"
	}
	if x.body != "" {
		s += fmt.Sprintf("Content-Length: %d\r\n", len(x.body))
	}
	s += "\r\n" + x.body
	if wholly(s, 0) != (told{x, len(s), api.OK}) {
		return "", api.ErrForm
	}
	return s, api.OK
}

func request(x asked) api.Request {
	return api.Request{Method: x.method, Target: x.target, Token: x.token, Body: []byte(x.body)}
}

// prints holds Print against what is asked for, and against the chapter's words.
func prints(t *testing.T, x asked, want string, e api.Errno) {
	t.Helper()
	b, is := wire.Print(request(x))
	if string(b) != want || is != e || is != api.OK && b != nil {
		t.Errorf("Print of %.300q: %.300q, error %d; not %.300q, error %d", fmt.Sprint(x), b, is, want, e)
	}
	if by, is := written(x); by != want || is != e {
		t.Errorf("the chapter's words, of %.300q: %.300q, error %d; not %.300q, error %d", fmt.Sprint(x), by, is, want, e)
	}
}

// P13.3: Print, byte by byte.
func TestPrint(t *testing.T) {
	for _, c := range []struct {
		x    asked
		want string
	}{
		{asked{"GET", "/a", "", ""}, "GET /a HTTP/1.1\r\n\r\n"},
		{asked{"PUT", "/", "", ""}, "PUT / HTTP/1.1\r\n\r\n"},
		{asked{"POST", "//-/0", "", ""}, "POST //-/0 HTTP/1.1\r\n\r\n"},
		{asked{"GET", "/a", "t", ""}, "GET /a HTTP/1.1\r\nAuthorization: Bearer t\r\n\r\n"},
		{asked{"GET", "/a", " ", ""}, "GET /a HTTP/1.1\r\nAuthorization: Bearer  \r\n\r\n"},
		{asked{"GET", "/a", " a: ~ ", ""}, "GET /a HTTP/1.1\r\nAuthorization: Bearer  a: ~ \r\n\r\n"},
		{asked{"GET", "/a", "", "h"}, "GET /a HTTP/1.1\r\nContent-Length: 1\r\n\r\nh"},
		{asked{"PUT", "/a", "", "\r\n\x00\xff"}, "PUT /a HTTP/1.1\r\nContent-Length: 4\r\n\r\n\r\n\x00\xff"},
		{asked{"POST", "/a", "t.1", "hi"}, "POST /a HTTP/1.1\r\nAuthorization: Bearer t.1\r\nContent-Length: 2\r\n\r\nhi"},
		{asked{"PUT", "/a", "", row(10, 1)}, "PUT /a HTTP/1.1\r\nContent-Length: 10\r\n\r\n" + row(10, 1)},
		{asked{"PUT", "/a", "t", row(2048, 1)}, "PUT /a HTTP/1.1\r\nAuthorization: Bearer t\r\nContent-Length: 2048\r\n\r\n" + row(2048, 1)},
	} {
		prints(t, c.x, c.want, api.OK)
	}
	// An empty body and none are the same.
	for _, body := range [][]byte{nil, {}, make([]byte, 0, 9)} {
		b, e := wire.Print(api.Request{Method: "GET", Target: "/a", Body: body})
		if string(b) != "GET /a HTTP/1.1\r\n\r\n" || e != api.OK {
			t.Errorf("%q, error %d", b, e)
		}
	}
	for _, c := range append(samples(), longer()...) {
		want, e := written(c.x)
		prints(t, c.x, want, e)
	}
}

// P13.3: Print of what is no request.
func TestPrintNone(t *testing.T) {
	prints(t, asked{}, "", api.ErrForm)
	for _, method := range []string{"", "get", "Get", "HEAD", "G", " GET", "GET ", "GET\r\n", "GET /b HTTP/1.1\r\n\r\nGET", "GET /a", "\x00", "POSTS", "PUT\x80"} {
		prints(t, asked{method, "/a", "", ""}, "", api.ErrForm)
		prints(t, asked{method, "/a", "t", "hi"}, "", api.ErrForm)
	}
	for _, target := range []string{"", "a", "a/", " ", "/A", "/a ", " /a", "/a b", "/a?b", "/.", "/\r", "/\n", "/\r\n", "/\x00", "/\x7f", "/\x80", "/é", "/a HTTP/1.1", "/a HTTP/1.1\r\n\r\n", "/a HTTP/1.1\r\nX: y", "/a HTTP/1.1\r\nContent-Length: 11\r\n\r\n", "/" + strings.Repeat("a", 64), "/" + strings.Repeat("a", 2000)} {
		prints(t, asked{"GET", target, "", ""}, "", api.ErrForm)
		prints(t, asked{"PUT", target, "t", "hi"}, "", api.ErrForm)
	}
	for b := range 256 {
		if b < 32 || b > 126 {
			for _, token := range []string{string([]byte{byte(b)}), "t" + string([]byte{byte(b)}), string([]byte{byte(b)}) + "t", "a" + string([]byte{byte(b)}) + "b"} {
				prints(t, asked{"GET", "/a", token, ""}, "", api.ErrForm)
				prints(t, asked{"PUT", "/a", token, "hi"}, "", api.ErrForm)
			}
		}
	}
	for _, token := range []string{"t\r\n", "t\r\nX: y", "t\r\n\r\n", "t\r\nContent-Length: 2", "t\r\nContent-Length: 0\r\n\r\n", "\r\n"} {
		prints(t, asked{"GET", "/a", token, ""}, "", api.ErrForm)
		prints(t, asked{"GET", "/a", token, "hi"}, "", api.ErrForm)
	}
	for _, n := range []int{2049, 2050, 4096, 10000} {
		prints(t, asked{"GET", "/a", "", row(n, 1)}, "", api.ErrForm)
		prints(t, asked{"GET", "/a", "t", row(n, 1)}, "", api.ErrForm)
	}
}

// P13.3: Print of tokens with which the head has as many bytes as it may, and one more.
func TestPrintLongHead(t *testing.T) {
	for _, target := range []string{"/", "/a", "/" + strings.Repeat("a", 63)} {
		for _, body := range []string{"", "h", row(10, 1), row(2048, 1)} {
			s, _ := written(asked{"GET", target, "t", body})
			room := longHead - (len(s) - len(body)) + 1
			for n := room - 2; n <= room+3; n++ {
				x := asked{"GET", target, strings.Repeat("t", n), body}
				want, e := strings.Replace(s, "Bearer t", "Bearer "+x.token, 1), api.OK
				if n > room {
					want, e = "", api.ErrForm
				}
				if b, is := wire.Print(request(x)); string(b) != want || is != e {
					t.Errorf("a target of %d bytes, a token of %d (of %d) and a body of %d: %d bytes, error %d", len(target), n, room, len(body), len(b), is)
				}
			}
		}
	}
	prints(t, asked{"GET", "/", strings.Repeat("t", 982), ""}, "GET / HTTP/1.1\r\nAuthorization: Bearer "+strings.Repeat("t", 982)+"\r\n\r\n", api.OK)
	prints(t, asked{"GET", "/", strings.Repeat("t", 983), ""}, "", api.ErrForm)
	prints(t, asked{"GET", "/", strings.Repeat("t", 5000), ""}, "", api.ErrForm)
}

// printable answers requests that Print takes.
func printable() []asked {
	var l []asked
	for _, method := range []string{"GET", "PUT", "POST"} {
		for _, target := range []string{"/", "/a-0/z", "/" + strings.Repeat("a", 63)} {
			for _, token := range []string{"", "t", " Bearer : ~"} {
				for _, body := range []string{"", "x", "\r\n\r\n", row(12, 1)} {
					l = append(l, asked{method, target, token, body})
				}
			}
		}
	}
	return append(l, asked{"PUT", "/a", "t", row(2047, 1)}, asked{"PUT", "/a", "t", row(2048, 1)})
}

// P13.6: what is printed is read to its end, whole and one byte at a time; each beginning of it is too short.
func TestPrintedIsRead(t *testing.T) {
	r := wire.New()
	for _, x := range printable() {
		b, e := wire.Print(request(x))
		if e != api.OK {
			t.Fatalf("Print of %.200q: error %d", fmt.Sprint(x), e)
		}
		for _, behind := range []string{"", "x", string(b)} {
			if got := read(string(b) + behind); got != (told{x, len(b), api.OK}) {
				t.Errorf("%.200q: %.200q", b, fmt.Sprint(got))
			}
		}
		ends(t, r, string(b))
		takes(t, r, x)
		for n := range len(b) {
			if got := read(string(b[:n])); got != refused(api.ErrShort) {
				t.Fatalf("the first %d bytes of %.200q: %.200q", n, b, fmt.Sprint(got))
			}
		}
	}
}

// P13.6: so it is in whatever letters the names are written.
func TestPrintedInAnyLetters(t *testing.T) {
	for _, x := range printable() {
		b, _ := wire.Print(request(x))
		for i, name := range cases("Authorization") {
			lengths := cases("Content-Length")
			head, body, _ := strings.Cut(string(b), "\r\n\r\n")
			head = strings.Replace(head, "\r\nAuthorization: ", "\r\n"+name+": ", 1)
			head = strings.Replace(head, "\r\nContent-Length: ", "\r\n"+lengths[i%len(lengths)]+": ", 1)
			if got := read(head + "\r\n\r\n" + body); got != (told{x, len(b), api.OK}) {
				t.Errorf("%.200q: %.200q", head, fmt.Sprint(got))
			}
		}
	}
}

// P13.6: what stands behind is the next request's: two and three, one behind the other.
func TestRowsOfRequests(t *testing.T) {
	all := samples()
	for _, one := range all {
		for _, other := range all {
			for _, third := range []sample{all[0], all[3], all[6]} {
				row := []sample{one, other, third}
				s := one.s + other.s + third.s
				r := wire.New()
				for _, c := range row {
					if got := read(s); got != (told{c.x, len(c.s), api.OK}) {
						t.Fatalf("%q: %q", s, fmt.Sprint(got))
					}
					ends(t, r, s[:len(c.s)])
					takes(t, r, c.x)
					s = s[len(c.s):]
				}
				if got := read(s); got != refused(api.ErrShort) {
					t.Fatalf("behind all: error %d", got.e)
				}
			}
		}
	}
}

// R3: Whole changes nothing of what it was handed, keeps nothing of it, and its answer is nobody else's.
func TestWholeMemory(t *testing.T) {
	all := append(samples(), longer()...)
	all = append(all, sample{s: ""}, sample{s: "g"}, sample{s: "\x00"}, sample{s: first + "content-length: 2\r\n\r\nh"})
	for _, c := range all {
		want := wholly(c.s, 0)
		b, room := roomy(c.s)
		was := bytes.Clone(room)
		one, n, e := wire.Whole(b)
		other, _, _ := wire.Whole(b)
		if !bytes.Equal(room, was) {
			t.Errorf("Whole of %.100q changed what it was handed", c.s)
		}
		if ownTwice(one.Body, other.Body) || ownTwice(room, one.Body) || ownTwice(one.Body, room) {
			t.Errorf("Whole of %.100q shares memory", c.s)
		}
		clear(room)
		if (told{flat(one), n, e}) != want {
			t.Errorf("Whole of %.100q hangs on what it was handed: %.200q", c.s, fmt.Sprint(flat(one)))
		}
		spoil(one.Body)
		if got := read(c.s); got != want {
			t.Errorf("Whole of %.100q: %.200q", c.s, fmt.Sprint(got))
		}
	}
}

// R3: so does Print.
func TestPrintMemory(t *testing.T) {
	for _, n := range []int{0, 1, 2, 16, 300, 2048, 2049} {
		for _, method := range []string{"PUT", "put"} {
			x := asked{method, "/a", "t", row(n, n)}
			want, _ := written(x)
			b, room := roomy(x.body)
			was := bytes.Clone(room)
			one, _ := wire.Print(api.Request{Method: method, Target: "/a", Token: "t", Body: b})
			other, _ := wire.Print(api.Request{Method: method, Target: "/a", Token: "t", Body: b})
			if !bytes.Equal(room, was) {
				t.Errorf("Print of %d bytes changed what it was handed", n)
			}
			if ownTwice(one, other) || ownTwice(room, one) || ownTwice(one, room) {
				t.Errorf("Print of %d bytes shares memory", n)
			}
			clear(room)
			if string(one) != want {
				t.Errorf("Print of %d bytes hangs on what it was handed", n)
			}
			spoil(one)
			if again, _ := wire.Print(request(x)); string(again) != want {
				t.Errorf("Print of %d bytes hangs on what it answered", n)
			}
		}
	}
}
