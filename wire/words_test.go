package wire_test

import (
	"bytes"
	"fmt"
	"math/big"
	"regexp"
	"strings"
	"testing"

	"inquest/api"
	"inquest/chunk"
	"inquest/wire"
)

// What the chapter says of requests, written anew, for the tests to hold the package against.

const (
	longHead   = 1024
	manyLines  = 16
	longTarget = 64
	longBody   = 2048

	small = "abcdefghijklmnopqrstuvwxyz"
	large = "ABCDEFGHIJKLMNOPQRSTUVWXYZ"
	nums  = "0123456789"

	first = "GET /a HTTP/1.1\r\n" // a first line that is good
)

var (
	linesForm   = regexp.MustCompile(`\A([ -~]*\r\n)*[ -~]*\r?\z`)
	firstLine   = regexp.MustCompile(`\A(GET|PUT|POST) (/[a-z0-9/-]{0,63}) HTTP/1\.1\z`)
	furtherLine = regexp.MustCompile(`\A[A-Za-z-]{1,32}: [ -~]*\z`)
	numberForm  = regexp.MustCompile(`\A(0|[1-9][0-9]*)\z`)
	greatestInt = new(big.Int).SetUint64(1<<63 - 1)
)

// values answers the values of the further lines that have a name, in letters of any size.
func values(lines []string, name string) []string {
	var l []string
	for _, s := range lines {
		if len(s) >= len(name)+2 && strings.ToLower(s[:len(name)+2]) == name+": " {
			l = append(l, s[len(name)+2:])
		}
	}
	return l
}

// isNumber tells whether a text is a number as text.ReadDec takes it.
func isNumber(s string) bool {
	n, ok := new(big.Int).SetString(s, 10)
	return numberForm.MatchString(s) && ok && n.Cmp(greatestInt) <= 0
}

// moreThan tells whether the digits of a number say more than n.
func moreThan(s string, n int64) bool {
	x, ok := new(big.Int).SetString(s, 10)
	return ok && x.Cmp(big.NewInt(n)) > 0
}

// possible tells whether further lines say what can be.
func possible(lines []string) bool {
	tokens, lengths, codings := values(lines, "authorization"), values(lines, "content-length"), values(lines, "transfer-encoding")
	if len(tokens) > 1 || len(lengths)+len(codings) > 1 {
		return false
	}
	for _, s := range tokens {
		if !strings.HasPrefix(s, "Bearer ") {
			return false
		}
	}
	for _, s := range lengths {
		if !isNumber(s) {
			return false
		}
	}
	for _, s := range codings {
		if s != "chunked" {
			return false
		}
	}
	return true
}

// atLF answers the error at the LF of the last of a head's lines.
func atLF(lines []string) api.Errno {
	last, further := lines[len(lines)-1], lines[1:]
	switch {
	case len(further) == 0 && !firstLine.MatchString(last):
		return api.ErrForm
	case len(further) == 0 || last == "":
		return api.OK
	case len(further) > manyLines:
		return api.ErrBig
	case !furtherLine.MatchString(last) || !possible(further):
		return api.ErrForm
	}
	for _, s := range values(further, "content-length") {
		if moreThan(s, longBody) {
			return api.ErrBig
		}
	}
	return api.OK
}

// next answers what Put of a byte has to answer behind those that came.
func next(came string, b byte) (bool, api.Errno) {
	s := came + string([]byte{b})
	if head, rest, ended := strings.Cut(came, "\r\n\r\n"); ended {
		return nextOfBody(strings.Split(head, "\r\n"), rest+string([]byte{b}))
	}
	if len(came) >= longHead {
		return false, api.ErrBig
	}
	if !linesForm.MatchString(s) {
		return false, api.ErrForm
	}
	if b != '\n' {
		return false, api.OK
	}
	lines := strings.Split(strings.TrimSuffix(s, "\r\n"), "\r\n")
	if e := atLF(lines); e != api.OK {
		return false, e
	}
	lengths, codings := values(lines, "content-length"), values(lines, "transfer-encoding")
	empty := len(codings) == 0 && (len(lengths) == 0 || lengths[0] == "0")
	return len(lines) > 1 && lines[len(lines)-1] == "" && empty, api.OK
}

// nextOfBody answers what Put of a body's last byte has to answer.
func nextOfBody(lines []string, body string) (bool, api.Errno) {
	if lengths := values(lines, "content-length"); len(lengths) > 0 {
		return lengths[0] == fmt.Sprint(len(body)), api.OK
	}
	r, _ := chunk.New(longBody)
	done, e := false, api.OK
	for i := range len(body) {
		done, e = r.Put(body[i])
	}
	return done, e
}

// model is a reader by the chapter's words: it keeps all bytes that it took, and looks at all of them each time.
type model struct {
	came          string
	whole, failed bool
}

func (m *model) put(b byte) (bool, api.Errno) {
	if m.whole || m.failed {
		return false, api.ErrState
	}
	done, e := next(m.came, b)
	m.came += string([]byte{b})
	m.whole, m.failed = done, e != api.OK
	return done, e
}

func (m *model) idle() bool { return m.came == "" }

func (m *model) take() (asked, bool) {
	if !m.whole {
		return asked{}, false
	}
	head, body, _ := strings.Cut(m.came, "\r\n\r\n")
	lines := strings.Split(head, "\r\n")
	parts := firstLine.FindStringSubmatch(lines[0])
	x := asked{method: parts[1], target: parts[2], body: body}
	for _, s := range values(lines, "authorization") {
		x.token = strings.TrimPrefix(s, "Bearer ")
	}
	if len(values(lines, "transfer-encoding")) > 0 {
		said, _, _ := chunk.Whole([]byte(body), longBody)
		x.body = string(said)
	}
	*m = model{}
	return x, true
}

// asked is a request that can be compared.
type asked struct{ method, target, token, body string }

func flat(x api.Request) asked { return asked{x.Method, x.Target, x.Token, string(x.Body)} }

// told is what Whole answers.
type told struct {
	x asked
	n int
	e api.Errno
}

func refused(e api.Errno) told { return told{e: e} }

// wholly answers what Whole has to answer, where the first good bytes are known to go on.
func wholly(s string, good int) told {
	m := model{came: s[:good]}
	for i := good; i < len(s); i++ {
		done, e := m.put(s[i])
		if e != api.OK {
			return refused(e)
		}
		if done {
			x, _ := m.take()
			return told{x, i + 1, api.OK}
		}
	}
	return refused(api.ErrShort)
}

// read does Whole.
func read(s string) told {
	x, n, e := wire.Whole([]byte(s))
	return told{flat(x), n, e}
}

// judged holds Whole against what is asked for, and against the chapter's words.
func judged(t *testing.T, s string, want told) {
	t.Helper()
	if got := read(s); got != want {
		t.Errorf("Whole(%.300q): %.300q; not %.300q", s, fmt.Sprint(got), fmt.Sprint(want))
	}
	if by := wholly(s, 0); by != want {
		t.Errorf("the chapter's words, of %.300q: %.300q; not %.300q", s, fmt.Sprint(by), fmt.Sprint(want))
	}
}

// goesOn puts bytes into a reader with which no request is whole and nothing errs.
func goesOn(t *testing.T, r *wire.Reader, s string) {
	t.Helper()
	for i := range len(s) {
		if done, e := r.Put(s[i]); done || e != api.OK {
			t.Fatalf("byte %d of %.300q: %v, error %d", i, s, done, e)
		}
	}
}

// fed answers a reader to which bytes came that go on.
func fed(t *testing.T, s string) *wire.Reader {
	t.Helper()
	r := wire.New()
	goesOn(t, r, s)
	return r
}

// ends puts the bytes of a request into a reader, which is whole with the last one alone.
func ends(t *testing.T, r *wire.Reader, s string) {
	t.Helper()
	goesOn(t, r, s[:len(s)-1])
	put(t, r, s[len(s)-1], true, api.OK)
}

// put does Put, and holds it against what is asked for.
func put(t *testing.T, r *wire.Reader, b byte, whole bool, want api.Errno) {
	t.Helper()
	if done, e := r.Put(b); done != whole || e != want {
		t.Fatalf("Put(%q): %v, error %d; not %v, error %d", b, done, e, whole, want)
	}
}

// takes does Take, and holds it against what is asked for.
func takes(t *testing.T, r *wire.Reader, want asked) {
	t.Helper()
	if x, ok := r.Take(); !ok || flat(x) != want {
		t.Fatalf("Take: %.300q, %v; not %.300q", fmt.Sprint(flat(x)), ok, fmt.Sprint(want))
	}
}

// takesNone does Take where nothing is to be taken.
func takesNone(t *testing.T, r *wire.Reader) {
	t.Helper()
	if x, ok := r.Take(); ok || x.Body != nil || flat(x) != (asked{}) {
		t.Fatalf("Take: %.300q, %v; not none", fmt.Sprint(flat(x)), ok)
	}
}

// idles holds Idle against what is asked for.
func idles(t *testing.T, r *wire.Reader, want bool) {
	t.Helper()
	if r.Idle() != want {
		t.Fatalf("Idle: not %v", want)
	}
}

// atEnd puts a line behind what goes on: nothing errs ahead of its LF, and there what is asked for.
func atEnd(t *testing.T, ahead, line string, want api.Errno) {
	t.Helper()
	r := fed(t, ahead+line+"\r")
	if done, e := r.Put('\n'); done || e != want {
		t.Errorf("at the LF of %.200q behind %.200q: %v, error %d; not error %d", line, ahead, done, e, want)
	}
	if done, e := next(ahead+line+"\r", '\n'); done || e != want {
		t.Errorf("the chapter's words, at the LF of %.200q behind %.200q: %v, error %d; not error %d", line, ahead, done, e, want)
	}
}

// sample is a request's bytes, and what they ask.
type sample struct {
	s string
	x asked
}

// samples answers requests of every kind, none of them long.
func samples() []sample {
	every := ""
	for c := ' '; c <= '~'; c++ {
		every += string(c)
	}
	return []sample{
		{"GET /a HTTP/1.1\r\n\r\n", asked{"GET", "/a", "", ""}},
		{"PUT / HTTP/1.1\r\n\r\n", asked{"PUT", "/", "", ""}},
		{"POST //a-0/ HTTP/1.1\r\nX: \r\n-:  :\r\n\r\n", asked{"POST", "//a-0/", "", ""}},
		{"POST /a HTTP/1.1\r\nAuthorization: Bearer t\r\ncontent-length: 2\r\n\r\nhi", asked{"POST", "/a", "t", "hi"}},
		{"GET /b HTTP/1.1\r\nCONTENT-LENGTH: 0\r\nauthorization: Bearer \r\n\r\n", asked{"GET", "/b", "", ""}},
		{"PUT /c HTTP/1.1\r\nContent-Length: 4\r\nX-Content-Length: 9\r\n\r\n\r\n\r\n", asked{"PUT", "/c", "", "\r\n\r\n"}},
		{"PUT /d HTTP/1.1\r\nTransfer-Encoding: chunked\r\n\r\n2\r\nab\r\n1\r\n\x00\r\n0\r\n\r\n", asked{"PUT", "/d", "", "ab\x00"}},
		{"GET /e HTTP/1.1\r\nauthorization: Bearer Bearer \r\nTRANSFER-encoding: chunked\r\n\r\n0\r\n\r\n", asked{"GET", "/e", "Bearer ", ""}},
		{"GET /f HTTP/1.1\r\nHost: h\r\naUTHORIZATION: Bearer " + every + "\r\n\r\n", asked{"GET", "/f", every, ""}},
		{"POST /g HTTP/1.1\r\nContent-Length: 12\r\n\r\n" + row(12, 1), asked{"POST", "/g", "", row(12, 1)}},
	}
}

// longer answers requests that are as long as they may be, in one way or another.
func longer() []sample {
	pad := func(s string) string { return strings.Repeat("p", longHead-len(s)) }
	head := "PUT /a HTTP/1.1\r\ncontent-length: 2048\r\nX: " + "\r\n\r\n"
	head = strings.Replace(head, "X: ", "X: "+pad(head), 1)
	token := pad("GET /a HTTP/1.1\r\nAuthorization: Bearer \r\n\r\n")
	target := "/" + strings.Repeat("b", longTarget-1)
	lines := strings.Repeat("a: \r\n", manyLines-1)
	return []sample{
		{head + row(longBody, 2), asked{"PUT", "/a", "", row(longBody, 2)}},
		{"GET /a HTTP/1.1\r\nAuthorization: Bearer " + token + "\r\n\r\n", asked{"GET", "/a", token, ""}},
		{"GET " + target + " HTTP/1.1\r\n" + lines + "Authorization: Bearer t\r\n\r\n", asked{"GET", target, "t", ""}},
		{"POST " + target + " HTTP/1.1\r\n" + lines + "transfer-encoding: chunked\r\n\r\n" + inChunks(row(longBody, 3), 1000), asked{"POST", target, "", row(longBody, 3)}},
		{"POST /z HTTP/1.1\r\ntransfer-encoding: chunked\r\n\r\n" + inChunks(row(longBody, 4), longBody), asked{"POST", "/z", "", row(longBody, 4)}},
	}
}

// inChunks answers a body in chunks of so many bytes.
func inChunks(s string, size int) string {
	b := ""
	for s != "" {
		n := min(size, len(s))
		b += fmt.Sprintf("%x\r\n%s\r\n", n, s[:n])
		s = s[n:]
	}
	return b + "0\r\n\r\n"
}

// row answers n bytes of all values, another row for each seed.
func row(n, seed int) string {
	b := make([]byte, n)
	for i := range b {
		b[i] = byte(37*seed + i*i + i>>3)
	}
	return string(b)
}

// roomy answers bytes behind which there is room that is not theirs, and all of it.
func roomy(s string) (part, whole []byte) {
	whole = append([]byte(s), row(200, 99)...)
	return whole[:len(s)], whole
}

// spoil writes into all the memory that bytes have.
func spoil(b []byte) {
	for i := range b[:cap(b)] {
		b[:cap(b)][i] ^= 0x55
	}
}

// ownTwice tells whether two lists of bytes have memory together.
func ownTwice(a, b []byte) bool {
	was := bytes.Clone(a[:cap(a)])
	spoil(b)
	same := bytes.Equal(was, a[:cap(a)])
	spoil(b)
	return !same
}

// cases answers a text in letters of several sizes.
func cases(s string) []string {
	l := []string{strings.ToLower(s), strings.ToUpper(s)}
	for i := range len(s) {
		l = append(l, strings.ToLower(s[:i])+strings.ToUpper(s[i:]), strings.ToUpper(s[:i])+strings.ToLower(s[i:i+1])+strings.ToUpper(s[i+1:]))
	}
	return l
}
