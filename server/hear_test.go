package server_test

import (
	"math/rand"
	"strings"
	"testing"

	"inquest/api"
	"inquest/wire"
)

// noConns are connections that there are not.
func noConns() []int {
	return []int{-1, -2, -16, 16, 17, 32, 256, 1 << 32, 1<<32 + 1, least, least + 1, greatest}
}

// P24.2: connections 0 to 15 hear, others do not, and nothing comes of what is sent on them.
func TestHearConns(t *testing.T) {
	p := made(t, named(2), 60)
	for k := range conns {
		p.asks(t, k, "a", "GET", "/usage", "", 200)
	}
	for _, k := range noConns() {
		for _, s := range []string{"", "\x00", ask("PUT", "/uploads/a", p.mine("a"), "x"), "GET /usage"} {
			p.answers(t, k, s, "")
		}
		p.shut(t, k)
	}
	p.stands(t)
	for k := range conns {
		p.tells(t, k, ask("GET", "/usage", p.mine("a"), ""), 200, "0 1073741824 0 0")
	}
}

// P24.2: no bytes are answered nothing, and nothing comes of them, wherever a connection stands.
func TestHearNothing(t *testing.T) {
	p := made(t, named(1), 60)
	none := func() {
		t.Helper()
		for k := range conns {
			p.answers(t, k, "", "")
			if got := p.s.Hear(k, nil); len(got) > 0 {
				t.Fatalf("%q", got)
			}
		}
	}
	none()
	for _, s := range single(ask("PUT", "/uploads/a", p.mine("a"), "xy")) {
		p.hear(t, 0, s)
		none()
	}
	p.tells(t, 0, "\n", 400, "")
	none()
	p.stands(t)
}

// heard is a request, and what is told of it.
type heard struct {
	s    string
	code int
	body string
}

// hears are requests of all kinds with what is told of them, one behind the other, by member a.
func hears(p *pair) []heard {
	mine := p.mine("a")
	set, cell := histories()["set"], specs()["cell"]
	return []heard{
		{ask("GET", "/usage", mine, ""), 200, "0 1073741824 0 0"},
		{ask("PUT", "/uploads/set", mine, set[:2]), 200, "2"},
		{chunked("PUT", "/uploads/set", mine, set[2:], 1), 200, "6"},
		{ask("POST", "/histories/set", mine, ""), 200, "1"},
		{ask("POST", "/histories/set", mine, "body"), 409, ""},
		{chunked("PUT", "/specs/cell", mine, cell, 3), 200, "8"},
		{ask("GET", "/none", mine, ""), 404, ""},
		{ask("POST", "/jobs/set/cell", mine, ""), 200, "0"},
		{ask("GET", "/jobs/0", mine, ""), 200, "waiting"},
		{ask("GET", "/jobs/0", "", ""), 401, ""},
		{ask("PUT", "/jobs/0", mine, "xyz"), 405, ""},
		{ask("GET", "/jobs/0", p.mine("nobody"), ""), 403, ""},
		{ask("GET", "/usage", mine, ""), 200, "194 1073741824 1 0"},
	}
}

// P24.2: a request in one piece, in single bytes, cut in two at each place: there is one answer, with the last byte.
func TestHearPieces(t *testing.T) {
	for _, deeds := range []bool{false, true} {
		p := made(t, named(2), 60)
		p.deeds = deeds
		for k, x := range hears(p) {
			p.tells(t, k, x.s, x.code, x.body)
		}
		p.stands(t)
		p = made(t, named(2), 60)
		p.deeds = deeds
		for k, x := range hears(p) {
			for _, b := range single(x.s[:len(x.s)-1]) {
				p.answers(t, k, b, "")
			}
			p.tells(t, k, x.s[len(x.s)-1:], x.code, x.body)
		}
		p.stands(t)
	}
	p := made(t, named(2), 60)
	all := hears(p)
	for k, x := range all {
		for at := range x.s {
			p := made(t, named(2), 30)
			for _, x := range all[:k] {
				p.tells(t, 1, x.s, x.code, x.body)
			}
			p.answers(t, 2, x.s[:at], "")
			p.tells(t, 2, x.s[at:], x.code, x.body)
		}
	}
}

// P24.2: several requests in one piece, also with the beginning of the next: one answer behind the other; at whatever two places the piece is cut.
func TestHearSeveral(t *testing.T) {
	p := made(t, named(2), 60)
	all, want := "", ""
	for _, x := range hears(p) {
		all += x.s
		want += answered(x.code, x.body)
	}
	p.answers(t, 5, all, want)
	p.stands(t)
	next := ask("GET", "/usage", p.mine("a"), "")
	for at := range next {
		q := made(t, named(2), 60)
		q.answers(t, 5, all+next[:at], want)
		q.tells(t, 5, next[at:], 200, "194 1073741824 1 0")
	}
	r := rand.New(rand.NewSource(2402))
	for range 300 {
		q := made(t, named(2), 30)
		got := ""
		for _, s := range cut(r, all) {
			got += q.hear(t, 15, s)
		}
		if got != want {
			t.Fatalf("%q, not %q", got, want)
		}
		q.stands(t)
	}
}

// P24.2: two requests in one piece, of each pair of kinds.
func TestHearTwo(t *testing.T) {
	p := made(t, named(2), 300)
	for _, x := range hears(p) {
		for _, y := range hears(p) {
			b := []byte(p.hear(t, 4, x.s+y.s))
			_, _, n, err := wire.ReadAnswer(b)
			_, _, m, err2 := wire.ReadAnswer(b[n:])
			if err != api.OK || err2 != api.OK || n+m != len(b) {
				t.Fatalf("%q and %q: %q", x.s, y.s, b)
			}
		}
	}
	p.stands(t)
}

// wrong is what errs with its last byte, and what is told then.
type wrong struct {
	s    string
	code int
}

// wrongs answers all ways in which bytes err.
func wrongs() []wrong {
	first := "GET /a HTTP/1.1\r\n"
	lines := strings.Repeat("a: \r\n", 16)
	long := first + "a: " + strings.Repeat("x", 1024-len(first)-3)
	inChunks := first + "Transfer-Encoding: chunked\r\n\r\n"
	return []wrong{
		{"\x00", 400}, {"\n", 400}, {"\x7f", 400}, {"\xff", 400}, {"\t", 400}, {"G\x00", 400}, {"\r\r", 400}, {"\rG", 400}, {"GET /a HTTP/1.1\n", 400},
		{"\r\n", 400}, {"get /a HTTP/1.1\r\n", 400}, {"HEAD /a HTTP/1.1\r\n", 400}, {"GET a HTTP/1.1\r\n", 400}, {"GET /A HTTP/1.1\r\n", 400}, {"GET /a HTTP/1.0\r\n", 400},
		{"GET  /a HTTP/1.1\r\n", 400}, {"GET /a HTTP/1.1 \r\n", 400}, {"GET /" + strings.Repeat("a", 64) + " HTTP/1.1\r\n", 400},
		{first + "a:b\r\n", 400}, {first + "a\r\n", 400}, {first + ": b\r\n", 400}, {first + strings.Repeat("a", 33) + ": b\r\n", 400}, {first + "a: \x80", 400}, {first + "a0: b\r\n", 400},
		{first + "Authorization: bearer x\r\n", 400}, {first + "Authorization: Bearer\r\n", 400}, {first + "Authorization: Bearer x\r\nAuthorization: Bearer x\r\n", 400},
		{first + "Content-Length: 02\r\n", 400}, {first + "Content-Length: \r\n", 400}, {first + "Content-Length: -1\r\n", 400}, {first + "Content-Length: 9223372036854775808\r\n", 400},
		{first + "Content-Length: 2\r\nContent-Length: 2\r\n", 400}, {first + "Content-Length: 2\r\nTransfer-Encoding: chunked\r\n", 400},
		{first + "Transfer-Encoding: gzip\r\n", 400}, {first + "Transfer-Encoding: chunked\r\nTransfer-Encoding: chunked\r\n", 400}, {first + "Transfer-Encoding: chunked\r\nContent-Length: 0\r\n", 400},
		{first + "Content-Length: 2049\r\n", 413}, {first + "content-length: 9223372036854775807\r\n", 413},
		{first + lines + "a: \r\n", 413}, {first + lines + "a\r\n", 413}, {first + lines + "Content-Length: 02\r\n", 413},
		{long + "x", 413}, {long + "\x00", 413}, {long + "\r", 413}, {strings.Repeat("x", 1024) + "x", 413}, {strings.Repeat("x", 1024) + "\n", 413},
		{inChunks + "g", 400}, {inChunks + "A", 400}, {inChunks + "02", 400}, {inChunks + "00", 400}, {inChunks + "\r", 400}, {inChunks + "2\n", 400}, {inChunks + "2\r\nabc", 400}, {inChunks + "2\r\nab\n", 400},
		{inChunks + "0\r\nx", 400}, {inChunks + "0\r\n\r\r", 400},
		{inChunks + "801", 413}, {inChunks + "900", 413}, {inChunks + "1\r\na\r\n800", 413}, {inChunks + "800\r\n" + strings.Repeat("x", 2048) + "\r\n1", 413},
	}
}

// P24.2: each way in which bytes err: one answer with the byte that errs, nothing with those ahead of it, nor with any behind it till Shut. Other connections go on.
func TestHearErrs(t *testing.T) {
	p := made(t, named(2), 4000)
	good := ask("PUT", "/uploads/a", p.mine("a"), "")
	want := answered(200, "0")
	half := len(good) / 2
	for k, x := range wrongs() {
		one, other := k%conns, (k+5)%conns
		p.answers(t, other, good[:half], "")
		for _, ways := range [][]string{{x.s}, single(x.s), {x.s[:len(x.s)-1], x.s[len(x.s)-1:]}} {
			last := len(ways) - 1
			for _, s := range ways[:last] {
				p.answers(t, one, s, "")
			}
			p.tells(t, one, ways[last], x.code, "")
			for _, s := range []string{"", "\n", "\x00", x.s, good, good + good, ask("PUT", "/uploads/b", p.mine("b"), "x")} {
				p.answers(t, one, s, "")
			}
			p.shut(t, one)
			p.answers(t, one, good, want)
		}
		p.answers(t, one, good+x.s+good+x.s, want+answered(x.code, ""))
		p.answers(t, one, good, "")
		p.answers(t, other, good[half:], want)
		p.shut(t, one)
	}
	p.stands(t)
}

// P24.2: where all connections but one hear nothing any more, that one does; each is heard from its own Shut on.
func TestHearErrsAll(t *testing.T) {
	p := made(t, named(1), 60)
	good := ask("GET", "/usage", p.mine("a"), "")
	want := answered(200, "0 1073741824 0 0")
	for one := range conns {
		for k := range conns {
			if k != one {
				p.tells(t, k, "\n", 400, "")
			}
		}
		p.answers(t, one, good, want)
		for k := range conns {
			if k != one {
				p.answers(t, k, good, "")
				p.shut(t, k)
				p.answers(t, k, good, want)
			}
		}
	}
}

// P24.2: Shut in the midst of a request: nothing of it is left; behind an error; of a new connection; again and again.
func TestShut(t *testing.T) {
	for _, deeds := range []bool{false, true} {
		p := made(t, named(2), 4000)
		p.deeds = deeds
		good := ask("PUT", "/uploads/a", p.mine("a"), "x")
		for at := range good {
			p.answers(t, 7, good[:at], "")
			p.answers(t, 8, good[:at], "")
			for range 1 + at%3 {
				p.shut(t, 7)
			}
			for _, k := range noConns() {
				p.shut(t, k)
			}
			p.answers(t, 7, ask("GET", "/head", "", ""), answered(401, ""))
			b := p.hear(t, 8, good[at:])
			if !strings.HasPrefix(b, "HTTP/1.1 200") {
				t.Fatalf("cut at %d: %q", at, b)
			}
		}
		for k := range conns {
			p.shut(t, k)
			p.tells(t, k, "x\n", 400, "")
			p.shut(t, k)
			p.tells(t, k, ask("GET", "/none", p.mine("b"), ""), 404, "")
		}
		p.stands(t)
	}
}

// P24.2: who bears no token, or one that was not minted here, is nobody: 401; so is each token with one byte changed, put in, or left out.
func TestNobody(t *testing.T) {
	p := made(t, named(2), 60)
	good := p.token9()
	for _, s := range []string{
		"", signed("key", "a", 9), signed(sum("other", "token"), "a", 9), signed(sum("key", "ledger a"), "a", 9), signed(sum("key", "tokens"), "a", 9), signed("", "a", 9),
		signed(sum("key", "token"), "", 9), signed(sum("key", "token"), "A", 9), signed(sum("key", "token"), "a", -1), signed(sum("key", "token"), "a", mostTime+1), signed(sum("key", "token"), "a", greatest),
		signed(sum("key", "token"), "a2345678901234567", 9), strings.ToUpper(good), good + ".", "." + good, good + " ", " " + good, good[1:], good[:len(good)-1], good + "0", "a", "a.9", "a.9.", "Bearer " + good,
		"a.09" + good[3:], "a.+9" + good[3:], "b" + good[1:], "a.8" + good[3:], "a.10" + good[3:],
	} {
		p.tells(t, 0, ask("PUT", "/uploads/a", s, "x"), 401, "")
	}
	p.tells(t, 0, "PUT /uploads/a HTTP/1.1\r\nAuthorization: Bearer \r\n\r\n", 401, "")
	p.tells(t, 0, ask("GET", "/usage", good, ""), 200, "0 1073741824 0 0")
	for at := range good {
		for c := byte(32); c < 127; c++ {
			if c != good[at] {
				p.tells(t, 0, ask("PUT", "/uploads/a", good[:at]+string(c)+good[at+1:], "x"), 401, "")
			}
			p.tells(t, 0, ask("PUT", "/uploads/a", good[:at]+string(c)+good[at:], "x"), 401, "")
		}
		p.tells(t, 0, ask("PUT", "/uploads/a", good[:at]+good[at+1:], "x"), 401, "")
	}
	p.stands(t)
	if n := p.s.Tenant(0).Store().Used(); n != 0 {
		t.Errorf("%d bytes are used", n)
	}
}

// token9 answers a token of a until 9.
func (p *pair) token9() string { return p.w.token("a", 9) }

// P24.2: a token is taken till its time has come: one before it, not just then, not one behind; 401 ahead of 403.
func TestTimes(t *testing.T) {
	for _, expiry := range []int{0, 1, 2, 9, 1000, mostTime - 1, mostTime} {
		for _, name := range []string{"a", "b", "nobody"} {
			p := made(t, named(2), 9)
			s := ask("GET", "/usage", p.w.token(name, expiry), "")
			want := answered(200, "0 1073741824 0 0")
			if name == "nobody" {
				want = answered(403, "")
			}
			if expiry > 0 {
				p.answers(t, 0, s, want)
				p.pass(t, expiry-1)
				p.answers(t, 0, s[:20], "")
				p.answers(t, 0, s[20:], want)
			}
			p.answers(t, 0, s[:20], "")
			p.pass(t, 1)
			p.answers(t, 0, s[20:], answered(401, ""))
			p.answers(t, 0, s, answered(401, ""))
			p.pass(t, 1)
			p.answers(t, 0, s, answered(401, ""))
			p.pass(t, greatest)
			p.answers(t, 0, s, answered(401, ""))
		}
	}
}

// P24.2: whose pass names no member: 403, ahead of what route.Parse says.
func TestNoMember(t *testing.T) {
	p := made(t, members("a", "b1", "a234567890123456"), 9)
	for _, name := range []string{"b", "c", "b10", "aa", "a-", "a23456789012345", "b2", "z", "key", "token"} {
		for _, x := range [][2]string{{"GET", "/usage"}, {"PUT", "/uploads/a"}, {"GET", "/none"}, {"GET", "/"}, {"PUT", "/usage"}, {"POST", "/jobs/0"}} {
			p.tells(t, 0, ask(x[0], x[1], p.mine(name), ""), 403, "")
			p.tells(t, 0, ask(x[0], x[1], p.w.token(name, 0), ""), 401, "")
			p.tells(t, 0, ask(x[0], x[1], signed("other", name, 9), ""), 401, "")
		}
	}
	for _, name := range []string{"a", "b1", "a234567890123456"} {
		p.asks(t, 1, name, "GET", "/usage", "", 200)
	}
	p.stands(t)
}

// P24.2: a target that is none: 404; another method than its own: 405; both ahead of 503 of a member that is down, and of all that its tenant tells.
func TestNoRoute(t *testing.T) {
	l := named(3)
	l[1].Limits.Queue = 0
	p := made(t, l, 60)
	must(t, p.disks[2].Arm(0))
	must(t, p.w.disks[2].Arm(0))
	targets := map[string]string{
		"/uploads/a": "PUT", "/histories/a": "POST", "/specs/a": "PUT", "/jobs/a/b": "POST", "/jobs/0": "GET", "/head": "GET", "/heads/0": "GET", "/entries/0/0": "GET", "/growth/0/0": "GET", "/usage": "GET",
	}
	for _, name := range []string{"a", "b", "c"} {
		for target, method := range targets {
			for _, m := range []string{"GET", "PUT", "POST"} {
				if m != method {
					p.asks(t, 0, name, m, target, "body", 405)
				}
				p.asks(t, 0, name, m, target+"/", "body", 404)
				p.asks(t, 0, name, m, "/"+target, "", 404)
			}
			if name == "b" {
				p.asks(t, 0, name, method, target, "body", 503)
			}
		}
		for _, target := range []string{"/", "/uploads", "/uploads/", "/jobs", "/jobs/", "/jobs/00", "/heads/-1", "/none", "/head/0", "/jobs/a", "/jobs/0/0", "/growth/1", "/usage/a"} {
			p.asks(t, 0, name, "GET", target, "", 404)
		}
	}
	p.stands(t)
}

// P24.2: what changes something where the disk is off: 503, as the tenant tells it; what is only asked is told, and what is refused for another reason is refused so.
func TestDiskOff(t *testing.T) {
	for _, deeds := range []bool{false, true} {
		p := made(t, named(3), 60)
		p.deeds = deeds
		p.knows(t, "b", "set", "cell")
		p.asks(t, 0, "b", "POST", "/jobs/set/cell", "", 200)
		p.asks(t, 0, "b", "PUT", "/uploads/late", histories()["late"], 200)
		p.arm(t, 1, 0)
		for range 2 {
			p.asks(t, 0, "b", "PUT", "/uploads/a", "x", 503)
			p.asks(t, 0, "b", "POST", "/histories/late", "", 503)
			p.asks(t, 0, "b", "PUT", "/specs/echo", specs()["echo"], 503)
			p.asks(t, 0, "b", "POST", "/jobs/set/cell", "", 503)
			p.asks(t, 0, "b", "PUT", "/uploads/set", "", 409)
			p.asks(t, 0, "b", "POST", "/jobs/a/cell", "", 404)
			p.asks(t, 0, "b", "PUT", "/specs/echo", "", 422)
			for _, target := range []string{"/usage", "/head", "/heads/0", "/jobs/0"} {
				p.asks(t, 0, "b", "GET", target, "", 200)
			}
			for _, name := range []string{"a", "c"} {
				p.asks(t, 1, name, "PUT", "/uploads/a", "x", 200)
			}
			p.stands(t)
			for range 3 {
				p.pick(t, 100)
			}
		}
		p.asks(t, 0, "b", "GET", "/entries/0/1", "", 404)
		p.crash(t, nil, -1)
		p.stands(t)
		p.asks(t, 0, "b", "PUT", "/uploads/a", "x", 200)
	}
}
