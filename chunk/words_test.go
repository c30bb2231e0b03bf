package chunk_test

import (
	"bytes"
	"fmt"
	"math"
	"regexp"
	"sort"
	"strconv"
	"strings"
	"testing"

	"inquest/api"
	"inquest/chunk"
)

// What the chapter says, written anew, for the tests to hold the package against.

const (
	longBody = 2048 // the greatest most, as the chapter says it
	hexes    = "0123456789abcdef"
	ending   = "0\r\n\r\n"
)

var (
	sizeLine  = regexp.MustCompile(`\A(0|[1-9a-f][0-9a-f]*)\r\n`)
	sizeBegun = regexp.MustCompile(`\A(|0\r?|[1-9a-f][0-9a-f]*\r?)\z`)
	sizeSoFar = regexp.MustCompile(`\A[0-9a-f]+`)
)

// sight is what bytes are by 12.1.
type sight struct {
	form  bool   // a body in chunks begins with them
	whole bool   // they are one
	big   bool   // the size of a chunk and all that was said ahead of it are more than most
	said  string // by the chunks' bytes among them
}

// looked answers what bytes are, most being the bound.
func looked(s string, most int) sight {
	said := ""
	for {
		if n := number(s); n > most-len(said) {
			return sight{form: sizeLine.MatchString(s) || sizeBegun.MatchString(s), big: true, said: said}
		}
		line := sizeLine.FindString(s)
		if line == "" {
			return sight{form: sizeBegun.MatchString(s), said: said}
		}
		s = s[len(line):]
		if line == "0\r\n" {
			return sight{form: begins(s), whole: s == "\r\n", said: said}
		}
		n := number(line)
		if len(s) <= n {
			return sight{form: true, said: said + s}
		}
		said, s = said+s[:n], s[n:]
		if !strings.HasPrefix(s, "\r\n") {
			return sight{form: begins(s), said: said}
		}
		s = s[2:]
	}
}

// begins tells whether CR LF begins with bytes.
func begins(s string) bool { return strings.HasPrefix("\r\n", s) }

// number answers what the digits at the front of bytes say.
func number(s string) int {
	x, err := strconv.ParseUint("0"+sizeSoFar.FindString(s), 16, 31)
	if err != nil {
		return math.MaxInt32
	}
	return int(x)
}

// model is a reader by the chapter's words: it keeps all bytes that it took, and looks at all of them each time.
type model struct {
	most int
	came string
	over bool
}

func (m *model) put(b byte) (bool, api.Errno) {
	if m.over {
		return false, api.ErrState
	}
	s := m.came + string([]byte{b})
	now := looked(s, m.most)
	m.over = !now.form || now.big || now.whole
	if !now.form {
		return false, api.ErrForm
	}
	if now.big {
		return false, api.ErrBig
	}
	m.came = s
	return now.whole, api.OK
}

func (m *model) body() string { return looked(m.came, m.most).said }

// told is what Whole answers.
type told struct {
	said string
	n    int
	e    api.Errno
}

func refused(e api.Errno) told { return told{e: e} }

// wholly answers what Whole has to answer. Behind the first bad byte all is bad, so it is found by halving.
func wholly(s string, most int) told {
	if most < 0 || most > longBody {
		return refused(api.ErrArg)
	}
	n := sort.Search(len(s), func(n int) bool {
		now := looked(s[:n+1], most)
		return !now.form || now.big
	})
	if now := looked(s[:n], most); now.whole {
		return told{now.said, n, api.OK}
	}
	if n == len(s) {
		return refused(api.ErrShort)
	}
	if now := looked(s[:n+1], most); !now.form {
		return refused(api.ErrForm)
	}
	return refused(api.ErrBig)
}

// read does Whole, and looks whether an error stands alone.
func read(t *testing.T, s string, most int) told {
	t.Helper()
	said, n, e := chunk.Whole([]byte(s), most)
	if e != api.OK && (len(said) != 0 || n != 0) {
		t.Errorf("Whole of %.100q: beside error %d: %q, %d", s, e, said, n)
	}
	return told{string(said), n, e}
}

// judged holds Whole against what is asked for, and against the chapter's words.
func judged(t *testing.T, s string, most int, asked told) {
	t.Helper()
	if got := read(t, s, most); got != asked {
		t.Errorf("Whole(%.100q, %d): %.100q, %d, error %d; not %.100q, %d, error %d", s, most, got.said, got.n, got.e, asked.said, asked.n, asked.e)
	}
	if by := wholly(s, most); by != asked {
		t.Errorf("the chapter's words, of %.100q, %d: %.100q, %d, error %d; not %.100q, %d, error %d", s, most, by.said, by.n, by.e, asked.said, asked.n, asked.e)
	}
}

// made does New of what can be.
func made(t *testing.T, most int) *chunk.Reader {
	t.Helper()
	r, e := chunk.New(most)
	if r == nil || e != api.OK {
		t.Fatalf("New(%d): error %d", most, e)
	}
	return r
}

// fed answers a reader to which bytes came that go on.
func fed(t *testing.T, most int, s string) *chunk.Reader {
	t.Helper()
	r := made(t, most)
	for i := range len(s) {
		if done, e := r.Put(s[i]); done || e != api.OK {
			t.Fatalf("most %d, byte %d of %.100q: %v, error %d", most, i, s, done, e)
		}
	}
	return r
}

// put does Put, and holds it against what is asked for.
func put(t *testing.T, r *chunk.Reader, b byte, whole bool, asked api.Errno) {
	t.Helper()
	if done, e := r.Put(b); done != whole || e != asked {
		t.Fatalf("Put(%q): %v, error %d; not %v, error %d", b, done, e, whole, asked)
	}
}

// says holds Body against what is asked for.
func says(t *testing.T, r *chunk.Reader, asked string) {
	t.Helper()
	if got := string(r.Body()); got != asked {
		t.Fatalf("Body: %.100q, not %.100q", got, asked)
	}
}

// row answers n bytes of all values, another row for each seed.
func row(n, seed int) string {
	b := make([]byte, n)
	for i := range b {
		b[i] = byte(37*seed + i*i + i>>3)
	}
	return string(b)
}

// piece answers a chunk.
func piece(s string) string { return fmt.Sprintf("%x\r\n%s\r\n", len(s), s) }

// chunks answers texts as a body in chunks.
func chunks(l ...string) string {
	b := ""
	for _, s := range l {
		b += piece(s)
	}
	return b + ending
}

// roomy answers bytes behind which there is room that is not theirs, and all of it.
func roomy(s string) (part, whole []byte) {
	whole = append([]byte(s), row(200, 99)...)
	return whole[:len(s)], whole
}

// spoil writes into all the memory that bytes have.
func spoil(b []byte) {
	for i := range b[:cap(b)] {
		b[:cap(b)][i] ^= 0x55
	}
}

// midst tells whether a place is far within a chunk, where one place is as the other.
func midst(s string, at int) bool {
	const far = 8
	if at < far || at+far > len(s) {
		return false
	}
	return len(looked(s[:at+far], longBody).said)-len(looked(s[:at-far], longBody).said) == 2*far
}

// places answers the places of a body: all of them, but in the midst of long chunks only some.
func places(s string) []int {
	var l []int
	for at := range len(s) {
		if !midst(s, at) || at%61 == 0 {
			l = append(l, at)
		}
	}
	return l
}

// ownTwice tells whether two lists of bytes have memory together.
func ownTwice(a, b []byte) bool {
	was := bytes.Clone(a[:cap(a)])
	spoil(b)
	same := bytes.Equal(was, a[:cap(a)])
	spoil(b)
	return !same
}
