package route_test

import (
	"fmt"
	"math"
	"math/big"
	"regexp"
	"slices"
	"strings"
	"testing"

	"inquest/api"
	"inquest/route"
)

// What the chapter says of targets and of what is asked by them, written anew, for the tests to hold the package against.

const (
	least    = math.MinInt
	greatest = math.MaxInt

	longestName    = "a-0123456789bcde"
	greatestNumber = "9223372036854775807"
)

// asked is an Ask that can be compared.
type asked struct {
	kind             int
	name, spec, body string
	a, b             int
}

func flat(a api.Ask) asked { return asked{a.Kind, a.Name, a.Spec, string(a.Body), a.A, a.B} }

// ask answers the Ask again.
func (a asked) ask() api.Ask {
	return api.Ask{Kind: a.kind, Name: a.name, Spec: a.spec, Body: []byte(a.body), A: a.a, B: a.b}
}

// request is a request that can be compared.
type request struct{ method, target, token, body string }

func flatRequest(x api.Request) request {
	return request{x.Method, x.Target, x.Token, string(x.Body)}
}

// request answers the request again.
func (x request) request() api.Request {
	return api.Request{Method: x.method, Target: x.target, Token: x.token, Body: []byte(x.body)}
}

// line is a line of the chapter's table: p are the pieces that are names or numbers.
type line struct {
	form   *regexp.Regexp
	method string
	said   func(p []string, body string) asked
}

// table answers the chapter's table.
func table() []line {
	form := func(s string) *regexp.Regexp {
		s = strings.ReplaceAll(s, "NAME", `([a-z][a-z0-9-]{0,15})`)
		return regexp.MustCompile(`\A` + strings.ReplaceAll(s, "N", `(0|[1-9][0-9]*)`) + `\z`)
	}
	return []line{
		{form("/uploads/NAME"), "PUT", func(p []string, body string) asked { return asked{kind: api.APut, name: p[0], body: body} }},
		{form("/histories/NAME"), "POST", func(p []string, body string) asked { return asked{kind: api.ASeal, name: p[0]} }},
		{form("/specs/NAME"), "PUT", func(p []string, body string) asked { return asked{kind: api.ASpec, name: p[0], body: body} }},
		{form("/jobs/NAME/NAME"), "POST", func(p []string, body string) asked { return asked{kind: api.ASubmit, name: p[0], spec: p[1]} }},
		{form("/jobs/N"), "GET", func(p []string, body string) asked { return asked{kind: api.AJob, a: number(p[0])} }},
		{form("/head"), "GET", func(p []string, body string) asked { return asked{kind: api.ACurrent} }},
		{form("/heads/N"), "GET", func(p []string, body string) asked { return asked{kind: api.AHead, a: number(p[0])} }},
		{form("/entries/N/N"), "GET", func(p []string, body string) asked { return asked{kind: api.AEntry, a: number(p[0]), b: number(p[1])} }},
		{form("/growth/N/N"), "GET", func(p []string, body string) asked { return asked{kind: api.AGrowth, a: number(p[0]), b: number(p[1])} }},
		{form("/usage"), "GET", func(p []string, body string) asked { return asked{kind: api.AUsage} }},
	}
}

var (
	lines    = table()
	goodName = regexp.MustCompile(`\A[a-z][a-z0-9-]{0,15}\z`)
)

// number answers the number of digits.
func number(s string) int {
	n, _ := new(big.Int).SetString(s, 10)
	return int(n.Int64())
}

// tooGreat tells whether a piece is a number beyond 2^63 - 1.
func tooGreat(s string) bool {
	n, is := new(big.Int).SetString(s, 10)
	return is && n.Cmp(big.NewInt(greatest)) > 0
}

// parse answers what Parse has to answer.
func parse(x request) (asked, int) {
	for _, l := range lines {
		p := l.form.FindStringSubmatch(x.target)
		if p == nil || slices.ContainsFunc(p[1:], tooGreat) {
			continue
		}
		if x.method != l.method {
			return asked{}, 405
		}
		return l.said(p[1:], x.body), 200
	}
	return asked{}, 404
}

// areNames tells whether all texts are names, and makes them empty.
func areNames(l ...*string) bool {
	is := true
	for _, s := range l {
		is = is && goodName.MatchString(*s)
		*s = ""
	}
	return is
}

// areNumbers tells whether all numbers stand in a target, and makes them nought.
func areNumbers(l ...*int) bool {
	is := true
	for _, n := range l {
		is = is && *n >= 0
		*n = 0
	}
	return is
}

// printed answers what Print has to answer.
func printed(a asked) (request, api.Errno) {
	var x request
	rest := a // what the Kind does not ask for
	rest.kind = 0
	is := false
	switch a.kind {
	case 1:
		x, is = request{method: "PUT", target: "/uploads/" + a.name, body: a.body}, areNames(&rest.name)
		rest.body = ""
	case 2:
		x, is = request{method: "POST", target: "/histories/" + a.name}, areNames(&rest.name)
	case 3:
		x, is = request{method: "PUT", target: "/specs/" + a.name, body: a.body}, areNames(&rest.name)
		rest.body = ""
	case 4:
		x, is = request{method: "POST", target: "/jobs/" + a.name + "/" + a.spec}, areNames(&rest.name, &rest.spec)
	case 5:
		x, is = request{method: "GET", target: fmt.Sprint("/jobs/", a.a)}, areNumbers(&rest.a)
	case 6:
		x, is = request{method: "GET", target: fmt.Sprint("/heads/", a.a)}, areNumbers(&rest.a)
	case 7:
		x, is = request{method: "GET", target: fmt.Sprintf("/entries/%d/%d", a.a, a.b)}, areNumbers(&rest.a, &rest.b)
	case 8:
		x, is = request{method: "GET", target: fmt.Sprintf("/growth/%d/%d", a.a, a.b)}, areNumbers(&rest.a, &rest.b)
	case 9:
		x, is = request{method: "GET", target: "/usage"}, true
	case 10:
		x, is = request{method: "GET", target: "/head"}, true
	}
	if !is || rest != (asked{}) {
		return request{}, api.ErrArg
	}
	return x, api.OK
}

// judged does Parse, holds what it answers against the chapter's words, and answers it.
func judged(t *testing.T, x request) (asked, int) {
	t.Helper()
	a, code := route.Parse(x.request())
	want, wantCode := parse(x)
	if flat(a) != want || code != wantCode {
		t.Fatalf("Parse(%.200q): %.200q, %d; not %.200q, %d", x, fmt.Sprint(flat(a)), code, fmt.Sprint(want), wantCode)
	}
	return flat(a), code
}

// parses asks for what Parse answers with 200.
func parses(t *testing.T, x request, want asked) {
	t.Helper()
	if a, code := judged(t, x); a != want || code != 200 {
		t.Errorf("Parse(%.200q): %.200q, %d; not %.200q", x, fmt.Sprint(a), code, fmt.Sprint(want))
	}
}

// refuses asks for a status, and for the zero Ask.
func refuses(t *testing.T, method, target string, want int) {
	t.Helper()
	for _, body := range []string{"", "body"} {
		if a, code := judged(t, request{method, target, "token", body}); a != (asked{}) || code != want {
			t.Errorf("Parse of %.200q %.200q: %.200q, %d; not %d", method, target, fmt.Sprint(a), code, want)
		}
	}
}

// isNone asks that a target is none, whatever the method.
func isNone(t *testing.T, target string) {
	t.Helper()
	for _, method := range []string{"GET", "PUT", "POST", "get", ""} {
		refuses(t, method, target, 404)
	}
}

// written does Print, holds what it answers against the chapter's words, and answers it.
func written(t *testing.T, a api.Ask) (request, api.Errno) {
	t.Helper()
	x, e := route.Print(a)
	want, wantE := printed(flat(a))
	if flatRequest(x) != want || e != wantE {
		t.Fatalf("Print(%.200q): %.200q, error %d; not %.200q, error %d", fmt.Sprint(flat(a)), flatRequest(x), e, want, wantE)
	}
	return flatRequest(x), e
}

// prints asks for what Print answers with OK.
func prints(t *testing.T, a api.Ask, want request) {
	t.Helper()
	if x, e := written(t, a); x != want || e != api.OK {
		t.Errorf("Print(%.200q): %.200q, error %d; not %.200q", fmt.Sprint(flat(a)), x, e, want)
	}
}

// noPrint asks that Print takes an Ask not.
func noPrint(t *testing.T, a api.Ask) {
	t.Helper()
	if x, e := written(t, a); x != (request{}) || e != api.ErrArg {
		t.Errorf("Print(%.200q): %.200q, error %d; not error %d", fmt.Sprint(flat(a)), x, e, api.ErrArg)
	}
}

// sample is a request, and what is asked by it.
type sample struct {
	method, target string
	a              asked
}

// samples answers some of each line of the table, without bodies.
func samples() []sample {
	return []sample{
		{"PUT", "/uploads/a", asked{kind: 1, name: "a"}},
		{"PUT", "/uploads/" + longestName, asked{kind: 1, name: longestName}},
		{"PUT", "/uploads/uploads", asked{kind: 1, name: "uploads"}},
		{"POST", "/histories/h-7", asked{kind: 2, name: "h-7"}},
		{"POST", "/histories/" + longestName, asked{kind: 2, name: longestName}},
		{"PUT", "/specs/z9", asked{kind: 3, name: "z9"}},
		{"PUT", "/specs/" + longestName, asked{kind: 3, name: longestName}},
		{"POST", "/jobs/a/b", asked{kind: 4, name: "a", spec: "b"}},
		{"POST", "/jobs/a/a", asked{kind: 4, name: "a", spec: "a"}},
		{"POST", "/jobs/head/usage", asked{kind: 4, name: "head", spec: "usage"}},
		{"POST", "/jobs/" + longestName + "/z--------------", asked{kind: 4, name: longestName, spec: "z--------------"}},
		{"GET", "/jobs/0", asked{kind: 5}},
		{"GET", "/jobs/7", asked{kind: 5, a: 7}},
		{"GET", "/jobs/" + greatestNumber, asked{kind: 5, a: greatest}},
		{"GET", "/head", asked{kind: 10}},
		{"GET", "/heads/0", asked{kind: 6}},
		{"GET", "/heads/64", asked{kind: 6, a: 64}},
		{"GET", "/heads/" + greatestNumber, asked{kind: 6, a: greatest}},
		{"GET", "/entries/0/0", asked{kind: 7}},
		{"GET", "/entries/1/2", asked{kind: 7, a: 1, b: 2}},
		{"GET", "/entries/10/0", asked{kind: 7, a: 10}},
		{"GET", "/entries/" + greatestNumber + "/" + greatestNumber, asked{kind: 7, a: greatest, b: greatest}},
		{"GET", "/growth/0/0", asked{kind: 8}},
		{"GET", "/growth/0/5", asked{kind: 8, b: 5}},
		{"GET", "/growth/64/63", asked{kind: 8, a: 64, b: 63}},
		{"GET", "/growth/" + greatestNumber + "/" + greatestNumber, asked{kind: 8, a: greatest, b: greatest}},
		{"GET", "/usage", asked{kind: 9}},
	}
}

// hasBody tells whether a Body is asked for.
func hasBody(kind int) bool { return kind == api.APut || kind == api.ASpec }

// methods answers methods of all kinds, the three that targets have ahead.
func methods() []string {
	return []string{
		"GET", "PUT", "POST",
		"get", "put", "post", "Get", "gET", "Put", "pUT", "Post", "posT", "",
		"G", "GE", "GETT", "P", "PU", "PUTT", "PO", "POS", "POSTS", "UT", "ET", "OST",
		" GET", "GET ", "PUT ", " POST", "GET\n", "PUT\x00", "\x00", "\xff", "GET PUT POST", "GET/", "/",
		"HEAD", "DELETE", "PATCH", "OPTIONS", "TRACE", "CONNECT", "GETGET", "PUTPOST",
		strings.Repeat("GET", 1000),
	}
}

// bodies answers bodies of all sizes.
func bodies() []string {
	return []string{"", "x", "\x00", "/head", strings.Repeat("b", 2048), strings.Repeat("c", 4096), strings.Repeat("d", 4097), strings.Repeat("e", 100000)}
}

// often asks that things were met so often: else a test by chance says little.
func often[T comparable](t *testing.T, met map[T]int, least int, all ...T) {
	t.Helper()
	for _, x := range all {
		if met[x] < least {
			t.Errorf("%v was met %d times", x, met[x])
		}
	}
}
