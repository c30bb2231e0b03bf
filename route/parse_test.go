package route_test

import (
	"slices"
	"strings"
	"testing"

	"inquest/api"
	"inquest/route"
)

// P23.1: the chapter's examples.
func TestExamples(t *testing.T) {
	parses(t, request{method: "GET", target: "/jobs/7"}, asked{kind: api.AJob, a: 7})
	refuses(t, "GET", "/jobs/07", 404)
	refuses(t, "PUT", "/jobs/7", 405)
	parses(t, request{method: "POST", target: "/jobs/a/b"}, asked{kind: api.ASubmit, name: "a", spec: "b"})
	refuses(t, "GET", "/head/", 404)
}

// P23.1: each line of the table, with its method: the whole Ask, whatever the Token is; the Body where one is asked for, and nowhere else.
func TestEachLine(t *testing.T) {
	for _, s := range samples() {
		for _, body := range bodies() {
			for _, token := range []string{"", "t", "a.5.00", "/head", "\x00\xff", strings.Repeat("GET", 2000)} {
				want := s.a
				if hasBody(want.kind) {
					want.body = body
				}
				parses(t, request{s.method, s.target, token, body}, want)
			}
		}
	}
}

// P23.1: no Body is as good as one of no bytes.
func TestNilBody(t *testing.T) {
	for _, s := range samples() {
		for _, body := range [][]byte{nil, {}} {
			a, code := route.Parse(api.Request{Method: s.method, Target: s.target, Body: body})
			if flat(a) != s.a || code != 200 {
				t.Errorf("%s %s: %v, %d", s.method, s.target, a, code)
			}
		}
	}
}

// P23.1: each target with each method but its own.
func TestOtherMethods(t *testing.T) {
	for _, s := range samples() {
		for _, method := range methods() {
			if method != s.method {
				refuses(t, method, s.target, 405)
			}
		}
	}
}

// P23.1: the methods of /jobs/ with one piece behind are not those with two.
func TestJobs(t *testing.T) {
	parses(t, request{method: "GET", target: "/jobs/7"}, asked{kind: api.AJob, a: 7})
	refuses(t, "POST", "/jobs/7", 405)
	refuses(t, "PUT", "/jobs/7", 405)
	parses(t, request{method: "POST", target: "/jobs/a/a7"}, asked{kind: api.ASubmit, name: "a", spec: "a7"})
	refuses(t, "GET", "/jobs/a/a7", 405)
	refuses(t, "PUT", "/jobs/a/a7", 405)
	for _, target := range []string{
		"/jobs/a", "/jobs/a7", "/jobs/7a", "/jobs/-7", "/jobs/", "/jobs", "/jobs/7/", "/jobs//7",
		"/jobs/7/7", "/jobs/a/7", "/jobs/7/a", "/jobs/7a/a", "/jobs/a/7a", "/jobs/a/", "/jobs//a", "/jobs//", "/jobs/7/8/9", "/jobs/a/b/c",
	} {
		isNone(t, target)
	}
}

// named answers the targets in which a name stands, in each place that one has.
func named(name string) []sample {
	return []sample{
		{"PUT", "/uploads/" + name, asked{kind: api.APut, name: name}},
		{"POST", "/histories/" + name, asked{kind: api.ASeal, name: name}},
		{"PUT", "/specs/" + name, asked{kind: api.ASpec, name: name}},
		{"POST", "/jobs/" + name + "/s", asked{kind: api.ASubmit, name: name, spec: "s"}},
		{"POST", "/jobs/h/" + name, asked{kind: api.ASubmit, name: "h", spec: name}},
		{"POST", "/jobs/" + name + "/" + name, asked{kind: api.ASubmit, name: name, spec: name}},
	}
}

// P23.1: names of all lengths.
func TestNameLengths(t *testing.T) {
	for n := range 40 {
		for _, s := range named(strings.Repeat("n", n)) {
			if n >= 1 && n <= 16 {
				parses(t, request{method: s.method, target: s.target}, s.a)
			} else {
				isNone(t, s.target)
			}
		}
	}
}

// P23.1: each byte at each place of a name.
func TestNameBytes(t *testing.T) {
	const letters, others = "abcdefghijklmnopqrstuvwxyz", "0123456789-"
	for _, ahead := range []string{"", "a", "q-7", longestName[:15]} {
		for _, behind := range []string{"", "a", "-", "0z"} {
			for c := range 256 {
				b := string([]byte{byte(c)})
				name := ahead + b + behind
				is := strings.Contains(letters, b) || ahead != "" && strings.Contains(others, b)
				is = is && len(name) <= 16
				for _, s := range named(name) {
					if is {
						parses(t, request{method: s.method, target: s.target}, s.a)
					} else {
						refuses(t, s.method, s.target, 404)
					}
				}
			}
		}
	}
}

// numbered answers the targets in which a number stands, in each place that one has.
func numbered(s string, n int) []sample {
	return []sample{
		{"GET", "/jobs/" + s, asked{kind: api.AJob, a: n}},
		{"GET", "/heads/" + s, asked{kind: api.AHead, a: n}},
		{"GET", "/entries/" + s + "/5", asked{kind: api.AEntry, a: n, b: 5}},
		{"GET", "/entries/5/" + s, asked{kind: api.AEntry, a: 5, b: n}},
		{"GET", "/growth/" + s + "/5", asked{kind: api.AGrowth, a: n, b: 5}},
		{"GET", "/growth/5/" + s, asked{kind: api.AGrowth, a: 5, b: n}},
		{"GET", "/growth/" + s + "/" + s, asked{kind: api.AGrowth, a: n, b: n}},
	}
}

// P23.1: numbers that are some.
func TestNumbers(t *testing.T) {
	all := map[string]int{
		"0": 0, "1": 1, "7": 7, "9": 9, "10": 10, "63": 63, "64": 64, "65": 65, "100": 100, "4294967296": 1 << 32,
		"1099511627776": 1 << 40, "1099511627777": 1<<40 + 1, "999999999999999999": 999999999999999999, "1000000000000000000": 1000000000000000000,
		"9223372036854775806": greatest - 1, greatestNumber: greatest,
	}
	for s, n := range all {
		for _, s := range numbered(s, n) {
			parses(t, request{method: s.method, target: s.target}, s.a)
		}
	}
}

// P23.1: numbers that are none.
func TestNoNumbers(t *testing.T) {
	all := []string{
		"", "07", "00", "000", "01", "-0", "-1", "-7", "+0", "+1", "+7", "0x7", "0b1", "7_0", "1e3", "7.", ".7", "7.0", " 7", "7 ", "7\n", "\x007", "٧", "７",
		"9223372036854775808", "9223372036854775817", "-9223372036854775808", "-9223372036854775807", "18446744073709551615", "18446744073709551616", "18446744073709551623",
		"09223372036854775807", "10000000000000000000", "99999999999999999999", strings.Repeat("9", 1000), "0" + strings.Repeat("7", 1000), strings.Repeat("0", 100000), strings.Repeat("1", 100000),
		"N", "A", "B", "n", "a", "a7", "7a", "NaN", "inf", "nil",
	}
	for _, s := range all {
		for _, s := range numbered(s, 0) {
			isNone(t, s.target)
		}
	}
	for c := range 256 {
		b := string([]byte{byte(c)})
		for _, piece := range []string{b, b + "7", "7" + b, "7" + b + "7"} {
			for _, s := range numbered(piece, 0) {
				judged(t, request{method: s.method, target: s.target})
			}
		}
	}
}

// P23.1: the words of the table in capitals, and the names of what stands behind them, are none.
func TestNoWords(t *testing.T) {
	for _, target := range []string{
		"", "/", "//", "///", "////", "/////", "head", "usage", "heads/7", "jobs/7", "/heads", "/heads/", "/heads//", "/head/7", "/head/a", "/headss", "/headss/7", "/heade", "/hea", "/h",
		"/usage/", "/usage/7", "/usage/a", "/usages", "/usag", "/upload/a", "/uploads", "/uploads/", "/uploadss/a", "/histories", "/history/a", "/specs", "/spec/a", "/job/7", "/job/a/b",
		"/entries", "/entries/", "/entries/7", "/entries/7/", "/entries//7", "/entry/7/8", "/entries/7/8/9", "/growth", "/growth/7", "/growths/7/8", "/growth/7/8/", "/uploads/a/b", "/specs/a/b", "/heads/7/8",
		"/HEAD", "/Head", "/USAGE", "/Uploads/a", "/UPLOADS/a", "/uploads/NAME", "/uploads/A", "/histories/NAME", "/specs/NAME", "/specs/SPEC", "/jobs/NAME/NAME", "/jobs/NAME/SPEC", "/jobs/a/SPEC", "/jobs/N", "/jobs/A",
		"/heads/N", "/heads/A", "/entries/N/N", "/entries/A/B", "/entries/7/B", "/entries/A/7", "/growth/N/N", "/growth/A/B", "/a", "/7", "/a/b", "/a/7", "/7/8", "/heads/a", "/entries/a/b", "/growth/a/7", "/uploads/7", "/specs/7", "/histories/0",
		".", "..", "/.", "/./head", "/../head", "/jobs/../head", "/head?", "/head?a=7", "/head#", "/head%20", "%2fhead", "/%68ead", `\head`, "/head;", "http://a/head", "*", "/*", "/uploads/*",
		"/ head", "/head ", " /head", "/head\n", "\n/head", "/head\r\n", "/head\x00", "\x00/head", "/usage\t", "/uploads/a ", "/uploads/ a", "/jobs/7 ", "/jobs/ 7", "/jobs /7", "/heads/7\x7f", "/heads/7\xff", "/\xff", "/uploads/a\xff", "/usage ",
	} {
		isNone(t, target)
	}
}

// P23.1: targets with a / more, or without one, or with a piece more, or without one.
func TestSlashesAndPieces(t *testing.T) {
	for _, s := range samples() {
		pieces := strings.Split(s.target, "/")[1:]
		for i := range len(s.target) + 1 {
			if i == len(s.target) || s.target[i] == '/' {
				isNone(t, s.target[:i]+"/"+s.target[i:])
				isNone(t, s.target[:i]+"//"+s.target[i:])
				isNone(t, s.target[:i]+strings.Repeat("/", 1000)+s.target[i:])
			}
			if i < len(s.target) && s.target[i] == '/' {
				isNone(t, s.target[:i]+s.target[i+1:])
			}
		}
		for i := range len(pieces) + 1 {
			for _, piece := range []string{"", "a", "7", "a7", "7a", "head", "jobs", "NAME", "A"} {
				eachMethod(t, "/"+strings.Join(slices.Insert(slices.Clone(pieces), i, piece), "/"))
			}
			if i < len(pieces) {
				eachMethod(t, "/"+strings.Join(slices.Delete(slices.Clone(pieces), i, i+1), "/"))
				eachMethod(t, "/"+strings.Join(slices.Insert(slices.Clone(pieces), i, pieces[i]), "/"))
			}
		}
		isNone(t, s.target+s.target+s.target)
	}
}

// eachMethod holds Parse of a target, with each of the three methods and with none, against the chapter's words.
func eachMethod(t *testing.T, target string) {
	t.Helper()
	for _, method := range []string{"GET", "PUT", "POST", ""} {
		judged(t, request{method, target, "token", "body"})
	}
}

// P23.1: each beginning of a target, and each end, and each with a bit of another one behind.
func TestBeginnings(t *testing.T) {
	for _, s := range samples() {
		for i := range s.target {
			eachMethod(t, s.target[:i])
			eachMethod(t, s.target[i:])
			for _, behind := range []string{"s", "ss", "a", "7", "0", "-", "/", "/a", "/7", "//", "/a/7", " ", "\x00"} {
				eachMethod(t, s.target[:i]+behind)
				eachMethod(t, s.target+behind)
				eachMethod(t, s.target[:i]+behind+s.target[i:])
			}
		}
	}
}

// P23.1: targets with one byte changed, or one more, or one less: each byte at each place.
func TestEachByte(t *testing.T) {
	for _, s := range samples() {
		for i := range len(s.target) + 1 {
			ahead, behind := s.target[:i], s.target[i:]
			if i < len(s.target) {
				judged(t, request{method: s.method, target: ahead + behind[1:]})
			}
			for c := range 256 {
				b := string([]byte{byte(c)})
				judged(t, request{method: s.method, target: ahead + b + behind})
				if i < len(s.target) {
					judged(t, request{method: s.method, target: ahead + b + behind[1:]})
				}
			}
		}
	}
}

// words answers the words with which targets begin, and such as are nearly one.
func words() []string {
	return []string{
		"uploads", "histories", "specs", "jobs", "head", "heads", "entries", "growth", "usage",
		"upload", "uploadss", "history", "spec", "job", "hea", "headss", "entry", "growths", "usages", "Head", "", "a", "7", "NAME", "A",
	}
}

// P23.1: each word with up to four pieces of all kinds behind.
func TestAllPieces(t *testing.T) {
	pieces := []string{"a", "7", "a7", "7a", "", "07", "-1", "a-1", "A", "B", "NAME", "SPEC", "head"}
	met := map[int]int{}
	for _, word := range words() {
		rows := []string{"/" + word}
		for depth := range 4 {
			var longer []string
			for _, target := range rows {
				for _, method := range []string{"GET", "PUT", "POST"} {
					_, code := judged(t, request{method, target, "", "body"})
					met[code]++
				}
				if depth < 3 {
					for _, piece := range pieces {
						longer = append(longer, target+"/"+piece)
					}
				}
			}
			rows = longer
		}
	}
	often(t, met, 30, 200, 404, 405)
	for _, first := range []string{"a", "7"} {
		for _, word := range words() {
			eachMethod(t, "/"+word+strings.Repeat("/"+first, 4))
			eachMethod(t, "/"+word+strings.Repeat("/"+first, 5))
		}
	}
}

// P23.1: targets that are long.
func TestLong(t *testing.T) {
	for _, n := range []int{64, 65, 1000, 100000} {
		for _, s := range samples() {
			for _, piece := range []string{"a", "0", "-", "/", " ", "\xff", "/a", "/7"} {
				long := strings.Repeat(piece, n)
				refuses(t, s.method, s.target+long, 404)
				refuses(t, s.method, long+s.target, 404)
				refuses(t, "", "/"+long+s.target[1:], 404)
			}
		}
		for _, word := range words() {
			for _, piece := range []string{"a", "7", "0", "/", "/a", "/7"} {
				refuses(t, "GET", "/"+word+"/"+strings.Repeat(piece, n), 404)
				refuses(t, "POST", "/"+word+"/a/"+strings.Repeat(piece, n), 404)
				refuses(t, "GET", "/"+word+"/7/"+strings.Repeat(piece, n), 404)
			}
		}
	}
}

// P23.1, R2: what is none is 404, whatever the method, so of the zero request, too.
func TestNoneAheadOfMethod(t *testing.T) {
	for _, method := range methods() {
		for _, target := range []string{"", "/", "/headss", "/heads/", "/jobs/07", "/jobs/7/8", "/jobs/a", "/uploads/A", "/histories/7", "/specs/", "/entries/7", "/growth/a/b", "/usage/"} {
			refuses(t, method, target, 404)
		}
		for _, s := range samples() {
			refuses(t, method, s.target+"/", 404)
			refuses(t, method, s.target[1:], 404)
		}
	}
	if a, code := route.Parse(api.Request{}); flat(a) != (asked{}) || a.Body != nil || code != 404 {
		t.Errorf("of the zero request: %v, %d", a, code)
	}
}
