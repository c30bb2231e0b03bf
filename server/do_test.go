package server_test

import (
	"math/rand"
	"testing"

	"inquest/api"
	"inquest/server"
)

// others are Kinds that are none of a deed's.
func others() []int {
	return []int{0, -1, -2, 7, 8, 9, 100, 256 + 1, 1<<32 + 1, least, least + 1, greatest}
}

// P24.5: a deed of another Kind does nothing and is answered nothing, whatever its fields say.
func TestOtherDeeds(t *testing.T) {
	p := made(t, named(3), 60)
	p.knows(t, "a", "set", "cell")
	p.asks(t, 0, "a", "POST", "/jobs/set/cell", "", 200)
	good := ask("PUT", "/uploads/a", p.mine("a"), "x")
	p.answers(t, 2, good[:30], "")
	p.tells(t, 3, "\n", 400, "")
	for _, kind := range others() {
		for _, x := range []api.Deed{{}, {Conn: 2, Bytes: []byte("\n")}, {Conn: 3, Bytes: []byte(good), N: 5, Tenant: 1, Keep: []bool{true}}, {Conn: 4, Bytes: []byte(good), N: 0, Tenant: 0}} {
			x.Kind = kind
			p.none(t, x)
			p.stands(t)
		}
	}
	p.answers(t, 2, good[30:], answered(200, "1"))
	p.answers(t, 3, good, "")
	if at, tries, done := p.pick(t, 9); at != 0 || tries != 1 || !done {
		t.Errorf("Pick: %d, %d, %t", at, tries, done)
	}
	p.stands(t)
}

// P24.5: each Kind does what its call does, with the fields that it names and no others: the same row by calls and by deeds.
func TestDeedsAreCalls(t *testing.T) {
	r := rand.New(rand.NewSource(2408))
	for range 60 {
		l := anyMembers(r, 1+r.Intn(4))
		p, q := made(t, l, 80), made(t, l, 80)
		for range 200 {
			kind := 1 + r.Intn(6)
			if r.Intn(3) > 0 {
				kind = 1
			}
			x := api.Deed{Kind: kind, Conn: r.Intn(5), Tenant: r.Intn(len(l)+2) - 1, N: r.Intn(40) - 2, Keep: byChance(r, 5)}
			x.Bytes = []byte(anyRequest(r, p.w.anyToken(r, namesOf(l)...)))
			if r.Intn(30) == 0 {
				x.Bytes = []byte(anyNonsense(r, ""))
			}
			if got, want, words := string(p.s.Do(x)), called(q.s, x), p.w.do(x); got != want || got != words {
				t.Fatalf("%+v: %q, not %q, or %q", x, got, want, words)
			}
			q.w.do(x)
		}
		p.stands(t)
		q.stands(t)
	}
}

// called does by a call what a deed does, the Kinds being numbers.
func called(s *server.Server, x api.Deed) string {
	switch x.Kind {
	case 1:
		return string(s.Hear(x.Conn, x.Bytes))
	case 2:
		s.Shut(x.Conn)
	case 3:
		s.Pass(x.N)
	case 4:
		s.Pick(x.N)
	case 5:
		s.Arm(x.Tenant, x.N)
	case 6:
		s.Crash(x.Keep, x.N)
	}
	return ""
}

// isNothing asks a server that New did not make for everything.
func isNothing(t *testing.T, s *server.Server, n int, b []byte) {
	t.Helper()
	for _, name := range []string{"a", "", "A", string(b)} {
		if got, err := s.Mint(name, n); got != "" || err != api.ErrNil {
			t.Fatalf("Mint(%q, %d): %q, error %d", name, n, got, err)
		}
	}
	if got := s.Hear(n, b); len(got) > 0 {
		t.Fatalf("Hear(%d, %q): %q", n, b, got)
	}
	s.Shut(n)
	s.Pass(n)
	s.Arm(n, n)
	s.Crash([]bool{true}, n)
	s.Crash(nil, n)
	if k, tries, done := s.Pick(n); k != 0 || tries != 0 || done {
		t.Fatalf("Pick(%d): %d, %d, %t", n, k, tries, done)
	}
	if s.Now() != 0 || s.Down(n) || s.Tenant(n) != nil {
		t.Fatalf("Now %d, down %t, a tenant %t", s.Now(), s.Down(n), s.Tenant(n) != nil)
	}
	for kind := -1; kind < 9; kind++ {
		if got := s.Do(api.Deed{Kind: kind, Conn: n, Tenant: n, N: n, Bytes: b, Keep: []bool{true}}); len(got) > 0 {
			t.Fatalf("Do of %d: %q", kind, got)
		}
	}
}

// P24.5, R1: of a server that New did not make all calls do and answer nothing; Pick 0, 0, false; Mint ErrNil, ahead of its other errors.
func TestNotMade(t *testing.T) {
	r := rand.New(rand.NewSource(2409))
	for _, s := range []*server.Server{nil, new(server.Server), {}} {
		for _, n := range []int{0, 1, 5, 15, 16, -1, mostTime, mostTime + 1, least, greatest} {
			for _, b := range [][]byte{nil, {}, {0}, []byte(ask("GET", "/usage", "", "")), []byte(ask("GET", "/usage", signed(sum("", "token"), "a", mostTime), ""))} {
				isNothing(t, s, n, b)
			}
		}
		for range 300 {
			isNothing(t, s, anyInt(r), []byte(anyRequest(r, signed(sum("", "token"), "", 5))))
			anyCall(r, s)
		}
	}
}

// P24.1, P24.5: what New answers with an error is no server, and calls on it do nothing.
func TestNotMadeByNew(t *testing.T) {
	for range 3 {
		s, err := server.New([]byte("key"), nil, nil)
		if s != nil || err != api.ErrArg {
			t.Fatalf("a server %t, error %d", s != nil, err)
		}
		isNothing(t, s, 0, []byte(ask("GET", "/usage", "", "")))
	}
}
