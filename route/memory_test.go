package route_test

import (
	"slices"
	"sync"
	"testing"

	"inquest/api"
	"inquest/route"
)

// spoil writes into all the memory that bytes have, and behind their length.
func spoil(b []byte) {
	b = b[:cap(b)]
	for i := range b {
		b[i] ^= 0x55
	}
}

// roomy answers bytes behind which there is room that is not theirs, and all of it.
func roomy(s string) (part, whole []byte) {
	whole = []byte(s + "what stands behind")
	return whole[:len(s)], whole
}

// R3: Parse changes nothing of what is handed in, and its answer goes on as it was when that is changed.
func TestParseKeepsNothing(t *testing.T) {
	for _, s := range append(samples(), sample{"PUT", "/uploads/A", asked{}}) {
		for _, method := range []string{"GET", "PUT", "POST", ""} {
			for _, body := range []string{"", "x", "body", row(4096, 1)} {
				part, whole := roomy(body)
				was := slices.Clone(whole)
				a, code := route.Parse(api.Request{Method: method, Target: s.target, Token: "t", Body: part})
				if !slices.Equal(whole, was) {
					t.Fatalf("%q came to be %q", was, whole)
				}
				spoil(whole)
				want, wantCode := parse(request{method, s.target, "t", body})
				if flat(a) != want || code != wantCode {
					t.Fatalf("%s %s: %v, %d", method, s.target, flat(a), code)
				}
			}
		}
	}
}

// R3: what was handed in to Parse goes on as it was when the answer is changed.
func TestParseAnswersNew(t *testing.T) {
	for _, target := range []string{"/uploads/a", "/specs/a"} {
		for _, body := range []string{"", "x", "body", row(4096, 2)} {
			part, whole := roomy(body)
			was := slices.Clone(whole)
			x := api.Request{Method: "PUT", Target: target, Body: part}
			one, _ := route.Parse(x)
			two, _ := route.Parse(x)
			spoil(one.Body)
			_ = append(one.Body, "behind"...)
			if !slices.Equal(whole, was) || string(two.Body) != body {
				t.Fatalf("%q came to be %q, or %q", was, whole, two.Body)
			}
			spoil(two.Body)
			one.Body = append(one.Body[:0], "other"...)
			if three, code := route.Parse(x); string(three.Body) != body || code != 200 {
				t.Fatalf("%q came to be %q", body, three.Body)
			}
		}
	}
}

// R3: Print changes nothing of what is handed in, and its answer goes on as it was when that is changed.
func TestPrintKeepsNothing(t *testing.T) {
	for _, kind := range append(kinds(), 0, 11) {
		for _, name := range []string{"", "a", "A"} {
			for _, body := range []string{"", "x", "body", row(4096, 3)} {
				part, whole := roomy(body)
				was := slices.Clone(whole)
				x, e := route.Print(api.Ask{Kind: kind, Name: name, Body: part})
				if !slices.Equal(whole, was) {
					t.Fatalf("%q came to be %q", was, whole)
				}
				spoil(whole)
				want, wantE := printed(asked{kind: kind, name: name, body: body})
				if flatRequest(x) != want || e != wantE {
					t.Fatalf("Kind %d, %q: %q, error %d", kind, name, flatRequest(x), e)
				}
			}
		}
	}
}

// R3: what was handed in to Print goes on as it was when the answer is changed.
func TestPrintAnswersNew(t *testing.T) {
	for _, kind := range []int{api.APut, api.ASpec} {
		for _, body := range []string{"", "x", "body", row(4096, 4)} {
			part, whole := roomy(body)
			was := slices.Clone(whole)
			a := api.Ask{Kind: kind, Name: "a", Body: part}
			one, _ := route.Print(a)
			two, _ := route.Print(a)
			spoil(one.Body)
			_ = append(one.Body, "behind"...)
			if !slices.Equal(whole, was) || string(two.Body) != body {
				t.Fatalf("%q came to be %q, or %q", was, whole, two.Body)
			}
			spoil(two.Body)
			if three, e := route.Print(a); string(three.Body) != body || e != api.OK {
				t.Fatalf("%q came to be %q", body, three.Body)
			}
		}
	}
}

// R3: an answer of Parse and that of Print of it have no memory together.
func TestThereAndBackIsNew(t *testing.T) {
	for _, target := range []string{"/uploads/a", "/specs/a"} {
		x := api.Request{Method: "PUT", Target: target, Body: []byte("body")}
		a, _ := route.Parse(x)
		y, _ := route.Print(a)
		b, _ := route.Parse(y)
		for _, own := range [][]byte{x.Body, a.Body, y.Body, b.Body} {
			spoil(own)
			same := 0
			for _, other := range [][]byte{x.Body, a.Body, y.Body, b.Body} {
				if string(other) == "body" {
					same++
				}
			}
			if same != 3 {
				t.Errorf("%s: %d are as they were", target, same)
			}
			spoil(own)
		}
	}
}

// R4: what was asked before changes no answer, errors among it.
func TestNothingIsKept(t *testing.T) {
	all := samples()
	for range 3 {
		for i, s := range all {
			parses(t, request{method: s.method, target: s.target}, s.a)
			refuses(t, "GET", all[len(all)-1-i].target+"/", 404)
			prints(t, s.a.ask(), request{method: s.method, target: s.target})
			noPrint(t, api.Ask{Kind: s.a.kind, Name: "A", A: -1})
		}
	}
}

// R4: many at the same time, each of its own goroutine.
func TestAtTheSameTime(t *testing.T) {
	wrong := make([][]string, 8)
	var wait sync.WaitGroup
	for k := range wrong {
		wait.Go(func() {
			for n := range 300 {
				for i, s := range samples() {
					body := row((k+n)%9, i)
					want := s.a
					if hasBody(want.kind) {
						want.body = body
					}
					a, code := route.Parse(api.Request{Method: s.method, Target: s.target, Body: []byte(body)})
					x, e := route.Print(a)
					if flat(a) != want || code != 200 || x.Target != s.target || x.Method != s.method || string(x.Body) != want.body || e != api.OK {
						wrong[k] = append(wrong[k], s.target)
					}
				}
			}
		})
	}
	wait.Wait()
	for k, l := range wrong {
		if l != nil {
			t.Errorf("goroutine %d: %.300q", k, l)
		}
	}
}
