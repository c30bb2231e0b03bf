package route_test

import (
	"fmt"
	"strings"
	"testing"

	"inquest/api"
	"inquest/route"
)

// kinds answers all Kinds.
func kinds() []int {
	return []int{api.APut, api.ASeal, api.ASpec, api.ASubmit, api.AJob, api.AHead, api.AEntry, api.AGrowth, api.AUsage, api.ACurrent}
}

// noKinds answers Kinds that are none.
func noKinds() []int {
	return []int{0, -1, -2, -10, 11, 12, 20, 200, 404, 1<<32 + 1, -1 << 32, 1<<32 + 10, least, least + 1, least + 10, greatest - 1, greatest}
}

// names and noNames answer texts that are names, and texts that are none.
func names() []string {
	return []string{"a", "z", "h-7", "head", "jobs", "a7", "a-", "z--------------", longestName}
}

func noNames() []string {
	return []string{
		"", "A", "7", "-", "7a", "-a", "aB", "NAME", "SPEC", "N", "a/b", "/a", "a/", "/", "//", "a b", " a", "a ", "a\n", "\x00", "a\x00", "a\xff", "é", "a.b", "a_b", "0", "07",
		longestName + "a", strings.Repeat("a", 17), strings.Repeat("a", 100000), strings.Repeat("/", 1000),
	}
}

// P23.2: each Kind: Method, Target, Body, no Token.
func TestPrintEachKind(t *testing.T) {
	prints(t, api.Ask{Kind: api.APut, Name: "a", Body: []byte("b")}, request{method: "PUT", target: "/uploads/a", body: "b"})
	prints(t, api.Ask{Kind: api.ASeal, Name: "a"}, request{method: "POST", target: "/histories/a"})
	prints(t, api.Ask{Kind: api.ASpec, Name: "a", Body: []byte("b")}, request{method: "PUT", target: "/specs/a", body: "b"})
	prints(t, api.Ask{Kind: api.ASubmit, Name: "a", Spec: "b"}, request{method: "POST", target: "/jobs/a/b"})
	prints(t, api.Ask{Kind: api.AJob, A: 7}, request{method: "GET", target: "/jobs/7"})
	prints(t, api.Ask{Kind: api.AHead, A: 7}, request{method: "GET", target: "/heads/7"})
	prints(t, api.Ask{Kind: api.AEntry, A: 7, B: 8}, request{method: "GET", target: "/entries/7/8"})
	prints(t, api.Ask{Kind: api.AGrowth, A: 7, B: 8}, request{method: "GET", target: "/growth/7/8"})
	prints(t, api.Ask{Kind: api.AUsage}, request{method: "GET", target: "/usage"})
	prints(t, api.Ask{Kind: api.ACurrent}, request{method: "GET", target: "/head"})
	for _, s := range samples() {
		prints(t, s.a.ask(), request{method: s.method, target: s.target})
	}
}

// P23.2: Kinds that are none, with nothing beside them and with all kinds of things.
func TestPrintNoKind(t *testing.T) {
	for _, kind := range noKinds() {
		noPrint(t, api.Ask{Kind: kind})
		for _, s := range samples() {
			a := s.a.ask()
			a.Kind = kind
			noPrint(t, a)
			a.Body = []byte("b")
			noPrint(t, a)
		}
	}
}

// P23.2: names that are some, and names that are none, where a Kind asks for one.
func TestPrintNames(t *testing.T) {
	for _, kind := range []int{api.APut, api.ASeal, api.ASpec} {
		for _, name := range names() {
			if x, e := written(t, api.Ask{Kind: kind, Name: name}); e != api.OK || !strings.HasSuffix(x.target, "/"+name) {
				t.Errorf("Kind %d, %q: %q, error %d", kind, name, x, e)
			}
		}
		for _, name := range noNames() {
			noPrint(t, api.Ask{Kind: kind, Name: name})
			noPrint(t, api.Ask{Kind: kind, Spec: name})
			noPrint(t, api.Ask{Kind: kind, Spec: "a", Name: name})
		}
	}
	for _, one := range names() {
		for _, two := range names() {
			prints(t, api.Ask{Kind: api.ASubmit, Name: one, Spec: two}, request{method: "POST", target: "/jobs/" + one + "/" + two})
		}
		for _, two := range noNames() {
			noPrint(t, api.Ask{Kind: api.ASubmit, Name: one, Spec: two})
			noPrint(t, api.Ask{Kind: api.ASubmit, Name: two, Spec: one})
		}
	}
	for _, one := range noNames() {
		for _, two := range noNames() {
			noPrint(t, api.Ask{Kind: api.ASubmit, Name: one, Spec: two})
		}
	}
}

// P23.2: each byte at each place of a name.
func TestPrintNameBytes(t *testing.T) {
	for c := range 256 {
		b := string([]byte{byte(c)})
		for _, name := range []string{b, b + "a", "a" + b, "a" + b + "a", longestName[:15] + b, longestName + b} {
			for _, kind := range kinds() {
				written(t, api.Ask{Kind: kind, Name: name})
				written(t, api.Ask{Kind: kind, Name: name, Spec: "s"})
				written(t, api.Ask{Kind: kind, Name: "s", Spec: name})
			}
		}
	}
}

// P23.2: numbers from 0 on, and numbers below, where a Kind asks for one, or for two.
func TestPrintNumbers(t *testing.T) {
	good := map[int]string{0: "0", 1: "1", 7: "7", 10: "10", 63: "63", 64: "64", 1 << 32: "4294967296", greatest - 1: "9223372036854775806", greatest: greatestNumber}
	for n, s := range good {
		prints(t, api.Ask{Kind: api.AJob, A: n}, request{method: "GET", target: "/jobs/" + s})
		prints(t, api.Ask{Kind: api.AHead, A: n}, request{method: "GET", target: "/heads/" + s})
		for m, r := range good {
			prints(t, api.Ask{Kind: api.AEntry, A: n, B: m}, request{method: "GET", target: "/entries/" + s + "/" + r})
			prints(t, api.Ask{Kind: api.AGrowth, A: n, B: m}, request{method: "GET", target: "/growth/" + s + "/" + r})
		}
		for _, m := range []int{-1, -2, -7, -64, -1 << 32, least + 1, least} {
			for _, kind := range []int{api.AJob, api.AHead, api.AEntry, api.AGrowth} {
				noPrint(t, api.Ask{Kind: kind, A: m})
				noPrint(t, api.Ask{Kind: kind, A: m, B: n})
				noPrint(t, api.Ask{Kind: kind, A: n, B: m})
				noPrint(t, api.Ask{Kind: kind, A: m, B: m})
			}
		}
	}
}

// P23.2: a field that the Kind does not ask for and that is not zero.
func TestPrintOtherFields(t *testing.T) {
	for _, s := range samples() {
		spoiled := func(f func(a *api.Ask)) {
			t.Helper()
			a := s.a.ask()
			f(&a)
			noPrint(t, a)
		}
		for _, name := range append(names(), noNames()[1:]...) {
			if s.a.spec == "" {
				spoiled(func(a *api.Ask) { a.Spec = name })
			}
			if s.a.name == "" {
				spoiled(func(a *api.Ask) { a.Name = name })
				spoiled(func(a *api.Ask) { a.Name, a.Spec = name, name })
			}
		}
		for _, n := range []int{1, 7, -1, greatest, least} {
			if s.a.kind != api.AEntry && s.a.kind != api.AGrowth {
				spoiled(func(a *api.Ask) { a.B = n })
			}
			if s.a.kind < api.AJob || s.a.kind > api.AGrowth {
				spoiled(func(a *api.Ask) { a.A = n })
				spoiled(func(a *api.Ask) { a.A, a.B = n, n })
			}
		}
	}
}

// P23.2: a Body of any size where the Kind has one; none but of no bytes where it has none.
func TestPrintBody(t *testing.T) {
	for _, s := range samples() {
		for _, body := range [][]byte{nil, {}, make([]byte, 0, 9)} {
			a := s.a.ask()
			a.Body = body
			prints(t, a, request{method: s.method, target: s.target})
		}
		for _, body := range bodies()[1:] {
			a := s.a.ask()
			a.Body = []byte(body)
			if hasBody(s.a.kind) {
				prints(t, a, request{method: s.method, target: s.target, body: body})
			} else {
				noPrint(t, a)
			}
		}
	}
	for n := range 4200 {
		body := strings.Repeat("b", n)
		prints(t, api.Ask{Kind: api.APut, Name: "a", Body: []byte(body)}, request{method: "PUT", target: "/uploads/a", body: body})
	}
}

// P23.2: beside an error the request is zero, its Body too.
func TestPrintErrorIsZero(t *testing.T) {
	for _, a := range []api.Ask{
		{}, {Body: []byte("b")}, {Kind: api.APut, Body: []byte("b")}, {Kind: api.APut, Name: "A", Body: []byte("b")}, {Kind: api.ASpec, Name: "a", Spec: "b", Body: []byte("b")},
		{Kind: api.AUsage, Body: []byte("b")}, {Kind: api.ACurrent, A: 1, Body: []byte{}},
	} {
		if x, e := route.Print(a); flatRequest(x) != (request{}) || x.Body != nil || e != api.ErrArg {
			t.Errorf("%v: %v, error %d", a, x, e)
		}
	}
}

// P23.2, P23.3: all Asks of a few names, numbers and bodies: what Print takes is what Parse of the request answers, and no two of these have one request.
func TestAllAsks(t *testing.T) {
	by := map[request]asked{}
	met := map[api.Errno]int{}
	texts := []string{"", "a", "b", "7", "A", "a/b", "head", "a/"}
	numbers := []int{0, 1, 10, -1, greatest, least}
	for _, kind := range append(kinds(), 0, -1, 11) {
		for _, name := range texts {
			for _, spec := range texts {
				for _, a := range numbers {
					for _, b := range numbers {
						for _, body := range []string{"", "x", "a/b"} {
							ask := asked{kind, name, spec, body, a, b}
							x, e := written(t, ask.ask())
							met[e]++
							if e != api.OK {
								continue
							}
							if other, there := by[x]; there {
								t.Errorf("%q is asked by %q and %q", x, fmt.Sprint(ask), fmt.Sprint(other))
							}
							by[x] = ask
							parses(t, x, ask)
						}
					}
				}
			}
		}
	}
	often(t, met, 60, api.OK, api.ErrArg)
}
