package route_test

import (
	"strings"
	"testing"

	"inquest/api"
	"inquest/route"
	"inquest/token"
	"inquest/wire"
)

// thereAndBack prints an Ask that Print takes, and asks that Parse of it is that Ask, with whatever Token.
func thereAndBack(t *testing.T, a asked) request {
	t.Helper()
	x, e := written(t, a.ask())
	if e != api.OK {
		t.Fatalf("%.200q: error %d", a.name, e)
	}
	if x.token != "" {
		t.Errorf("Token %q", x.token)
	}
	parses(t, x, a)
	for _, s := range tokens(t) {
		y := x
		y.token = s
		parses(t, y, a)
	}
	return x
}

// backAndThere asks of what Parse takes that Print of it is the request again, but for the Token and for a Body that is not asked for.
func backAndThere(t *testing.T, x request) {
	t.Helper()
	a, code := judged(t, x)
	if code != 200 {
		t.Fatalf("%.200q: %d", x, code)
	}
	want := x
	want.token = ""
	if !hasBody(a.kind) {
		want.body = ""
	}
	prints(t, a.ask(), want)
}

// tokens answers a token that is one, and texts that are none.
func tokens(t *testing.T) []string {
	t.Helper()
	s, e := token.Mint([]byte("key"), longestName, api.MaxTime)
	if e != api.OK {
		t.Fatal(e)
	}
	return []string{s, "t", "Bearer t", "a.5.", "/head"}
}

// P23.3: what is printed is parsed as it was.
func TestThereAndBack(t *testing.T) {
	for _, s := range samples() {
		a := s.a
		thereAndBack(t, a)
		for _, body := range bodies() {
			if hasBody(a.kind) {
				a.body = body
				thereAndBack(t, a)
			}
		}
	}
}

// P23.3: what is parsed is printed as it was.
func TestBackAndThere(t *testing.T) {
	for _, s := range samples() {
		for _, body := range bodies() {
			for _, token := range append(tokens(t), "") {
				backAndThere(t, request{s.method, s.target, token, body})
			}
		}
	}
}

// overWire asks that wire.Print takes a request, and that it comes back from the bytes as it was, whatever stands behind them.
func overWire(t *testing.T, x request, want asked) {
	t.Helper()
	b, e := wire.Print(x.request())
	if e != api.OK {
		t.Fatalf("wire.Print of %.300q: error %d", x, e)
	}
	for _, behind := range []string{"", "GET /head HTTP/1.1\r\n\r\n", "\x00"} {
		y, n, e := wire.Whole(append(b[:len(b):len(b)], behind...))
		if flatRequest(y) != x || n != len(b) || e != api.OK {
			t.Fatalf("wire.Whole of %.300q: %.300q, %d, error %d", b, flatRequest(y), n, e)
		}
		if a, code := route.Parse(y); flat(a) != want || code != 200 {
			t.Fatalf("Parse of %.300q: %.300q, %d", flatRequest(y), a.Name, code)
		}
	}
}

// P23.3: wire.Print takes what is printed, with a token and without one.
func TestOverWire(t *testing.T) {
	for _, s := range samples() {
		x := thereAndBack(t, s.a)
		overWire(t, x, s.a)
		for _, token := range tokens(t) {
			x.token = token
			overWire(t, x, s.a)
		}
	}
}

// P23.3: the longest targets are short enough for a request.
func TestLongestTargets(t *testing.T) {
	longest := map[int]int{}
	for _, name := range []string{longestName, "z--------------9"} {
		for _, kind := range kinds() {
			a := asked{kind: kind}
			switch kind {
			case api.APut, api.ASeal, api.ASpec:
				a.name = name
			case api.ASubmit:
				a.name, a.spec = name, name
			case api.AJob, api.AHead:
				a.a = greatest
			case api.AEntry, api.AGrowth:
				a.a, a.b = greatest, greatest
			}
			x := thereAndBack(t, a)
			x.token = tokens(t)[0]
			overWire(t, x, a)
			longest[kind] = max(longest[kind], len(x.target))
		}
	}
	for _, kind := range kinds() {
		if n := longest[kind]; n < 5 || n > 64 {
			t.Errorf("Kind %d: %d bytes", kind, n)
		}
	}
}

// P23.3: a Body of each length that wire takes, and of one byte more.
func TestEachBodyOverWire(t *testing.T) {
	for _, kind := range []int{api.APut, api.ASpec} {
		for n := range 2049 {
			a := asked{kind: kind, name: longestName, body: row(n, kind)}
			x, e := written(t, a.ask())
			if e != api.OK {
				t.Fatalf("%d bytes: error %d", n, e)
			}
			overWire(t, x, a)
			x.token = "t"
			overWire(t, x, a)
		}
		for _, n := range []int{2049, 2050, 4096, 10000} {
			a := asked{kind: kind, name: "a", body: row(n, kind)}
			x := thereAndBack(t, a)
			for _, token := range append(tokens(t), "") {
				x.token = token
				if b, e := wire.Print(x.request()); b != nil || e != api.ErrForm {
					t.Errorf("wire.Print of %d bytes: %d bytes, error %d", n, len(b), e)
				}
			}
		}
	}
}

// row answers n bytes of all values, another row for each seed.
func row(n, seed int) string {
	b := make([]byte, n)
	for i := range b {
		b[i] = byte(31*seed + i*i + i>>2)
	}
	return string(b)
}

// P23.3: many that are printed, one behind the other, on one connection.
func TestManyOverWire(t *testing.T) {
	var all strings.Builder
	var want []asked
	for i, s := range samples() {
		a := s.a
		if hasBody(a.kind) {
			a.body = row(50*i, i)
		}
		x := thereAndBack(t, a)
		x.token = "t"
		b, e := wire.Print(x.request())
		if e != api.OK {
			t.Fatal(e)
		}
		all.Write(b)
		want = append(want, a)
	}
	r := wire.New()
	var got []asked
	for _, b := range []byte(all.String()) {
		whole, e := r.Put(b)
		if e != api.OK {
			t.Fatal(e)
		}
		if whole {
			x, _ := r.Take()
			a, code := route.Parse(x)
			if code != 200 {
				t.Fatalf("%q: %d", flatRequest(x), code)
			}
			got = append(got, flat(a))
		}
	}
	if len(got) != len(want) {
		t.Fatalf("%d of %d", len(got), len(want))
	}
	for i := range got {
		if got[i] != want[i] {
			t.Errorf("%.200q, not %.200q", got[i].name, want[i].name)
		}
	}
}
