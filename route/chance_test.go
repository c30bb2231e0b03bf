package route_test

import (
	"math/rand"
	"strings"
	"testing"

	"inquest/api"
	"inquest/route"
)

// anyOf answers one of these.
func anyOf[T any](r *rand.Rand, l []T) T { return l[r.Intn(len(l))] }

// anyText answers bytes by chance, often such as targets have.
func anyText(r *rand.Rand) string {
	const usual = "abz019-/ANS "
	b := make([]byte, r.Intn(20))
	for i := range b {
		b[i] = usual[r.Intn(len(usual))]
		if r.Intn(12) == 0 {
			b[i] = byte(r.Intn(256))
		}
	}
	return string(b)
}

// anyName answers a name, mostly.
func anyName(r *rand.Rand) string {
	const usual = "abcxyz0189-"
	if r.Intn(8) == 0 {
		return anyOf(r, append(noNames(), anyText(r)))
	}
	b := make([]byte, 1+r.Intn(16))
	for i := range b {
		b[i] = usual[r.Intn(len(usual))]
	}
	b[0] = byte('a' + r.Intn(26))
	return string(b)
}

// anyInt answers a number that is often at an edge, or small.
func anyInt(r *rand.Rand) int {
	switch r.Intn(6) {
	case 0:
		return anyOf(r, []int{0, 1, -1, least, least + 1, greatest, greatest - 1, 63, 64, 65, 1 << 40})
	case 1:
		return int(r.Uint64())
	case 2:
		return int(r.Uint64() >> r.Intn(64))
	}
	return r.Intn(100)
}

// anyDigits answers digits that are mostly a number.
func anyDigits(r *rand.Rand) string {
	s := ""
	for range 1 + r.Intn(4)*r.Intn(7) {
		s += string(byte('0' + r.Intn(10)))
	}
	return s
}

// anyPiece answers a piece of a target.
func anyPiece(r *rand.Rand) string {
	switch r.Intn(12) {
	case 0:
		return anyOf(r, words())
	case 1:
		return anyText(r)
	case 2, 3, 4, 5, 6:
		return anyDigits(r)
	}
	return anyName(r)
}

// fitTarget answers a target that has a form of the table, but for pieces that are no name or no number now and then.
func fitTarget(r *rand.Rand) string {
	one, two := anyDigits(r), anyDigits(r)
	switch r.Intn(10) {
	case 0:
		return "/uploads/" + anyName(r)
	case 1:
		return "/histories/" + anyName(r)
	case 2:
		return "/specs/" + anyName(r)
	case 3:
		return "/jobs/" + anyName(r) + "/" + anyName(r)
	case 4:
		return "/jobs/" + one
	case 5:
		return "/head"
	case 6:
		return "/heads/" + one
	case 7:
		return "/entries/" + one + "/" + two
	case 8:
		return "/growth/" + one + "/" + two
	}
	return "/usage"
}

// anyTarget answers a target of a word and pieces, mostly.
func anyTarget(r *rand.Rand) string {
	switch r.Intn(30) {
	case 0:
		return anyText(r)
	case 1, 2, 3, 4, 5, 6, 7, 8, 9:
		return fitTarget(r)
	}
	s := "/" + anyOf(r, words()[:9+r.Intn(2)*r.Intn(len(words())-8)])
	for range anyOf(r, []int{0, 1, 1, 1, 2, 2, 2, 3}) {
		s += "/" + anyPiece(r)
	}
	return s
}

// anyMethod answers a method that some target has, mostly.
func anyMethod(r *rand.Rand) string {
	if r.Intn(10) == 0 {
		return anyOf(r, methods())
	}
	return anyOf(r, methods()[:3])
}

// anyBody answers a body, often of no bytes.
func anyBody(r *rand.Rand) string {
	if r.Intn(2) == 0 {
		return ""
	}
	return row(r.Intn(100), r.Intn(100))
}

// changed answers a text with some bytes changed, or gone, or more.
func changed(r *rand.Rand, s string) string {
	for range r.Intn(3) {
		at := r.Intn(len(s) + 1)
		end := min(len(s), at+r.Intn(3))
		piece := anyText(r)
		s = s[:at] + piece[:min(len(piece), r.Intn(3))] + s[end:]
	}
	return s
}

// P23.1, P23.3: requests by chance, held against the chapter's words; what is taken is there and back.
func TestRequestsByChance(t *testing.T) {
	r := rand.New(rand.NewSource(231))
	codes, met := map[int]int{}, map[int]int{}
	for range 150000 {
		x := request{anyMethod(r), anyTarget(r), anyText(r), anyBody(r)}
		if r.Intn(4) == 0 {
			x.target = changed(r, x.target)
		}
		a, code := judged(t, x)
		codes[code]++
		if code == 200 {
			met[a.kind]++
			backAndThere(t, x)
		}
	}
	often(t, codes, 10000, 200, 404, 405)
	often(t, met, 300, kinds()...)
}

// P23.1: targets that are good, with a few bytes changed by chance.
func TestChangedByChance(t *testing.T) {
	r := rand.New(rand.NewSource(232))
	codes := map[int]int{}
	all := samples()
	for range 100000 {
		s := anyOf(r, all)
		x := request{s.method, changed(r, s.target), "", anyBody(r)}
		if r.Intn(3) == 0 {
			x.method = anyMethod(r)
		}
		_, code := judged(t, x)
		codes[code]++
	}
	often(t, codes, 5000, 200, 404, 405)
}

// anyAsk answers an Ask that is often one that Print takes.
func anyAsk(r *rand.Rand) api.Ask {
	kind := anyOf(r, kinds())
	if r.Intn(20) == 0 {
		kind = anyInt(r)
	}
	a := api.Ask{Kind: kind}
	some := func(is bool) bool { return is != (r.Intn(20) == 0) }
	if some(kind <= api.ASubmit) {
		a.Name = anyName(r)
	}
	if some(kind == api.ASubmit) {
		a.Spec = anyName(r)
	}
	if some(kind >= api.AJob && kind <= api.AGrowth) {
		a.A = anyInt(r)
	}
	if some(kind == api.AEntry || kind == api.AGrowth) {
		a.B = anyInt(r)
	}
	if some(hasBody(kind)) {
		a.Body = []byte(anyBody(r))
	}
	return a
}

// P23.2, P23.3: Asks by chance, held against the chapter's words; what is taken is there and back, and no two of these have one request.
func TestAsksByChance(t *testing.T) {
	r := rand.New(rand.NewSource(233))
	met, kept := map[api.Errno]int{}, map[int]int{}
	by := map[request]asked{}
	for range 100000 {
		a := anyAsk(r)
		x, e := written(t, a)
		met[e]++
		if e != api.OK {
			continue
		}
		kept[a.Kind]++
		parses(t, x, flat(a))
		if other, there := by[x]; there && other != flat(a) {
			t.Fatalf("%.200q is asked by two", x)
		}
		by[x] = flat(a)
	}
	often(t, met, 10000, api.OK, api.ErrArg)
	often(t, kept, 1000, kinds()...)
}

// R1: no panic comes out of the package, whatever is handed in.
func TestNoPanic(t *testing.T) {
	r := rand.New(rand.NewSource(234))
	bytes := func(n int) string {
		b := make([]byte, n)
		r.Read(b)
		return string(b)
	}
	text := func() string {
		switch r.Intn(6) {
		case 0:
			return ""
		case 1:
			return bytes(r.Intn(100))
		case 2:
			return "/" + bytes(r.Intn(5)) + "/" + bytes(r.Intn(5))
		case 3:
			return strings.Repeat(anyText(r), r.Intn(50))
		}
		return anyOf(r, []string{anyTarget(r), anyName(r), anyDigits(r), anyText(r), anyMethod(r)})
	}
	for range 40000 {
		judged(t, request{text(), text(), text(), text()})
		a := asked{anyOf(r, []int{anyInt(r), r.Intn(14) - 2}), text(), text(), text(), anyInt(r), anyInt(r)}
		written(t, a.ask())
	}
	for range 20 {
		long := strings.Repeat(text()+"/", 100000)
		judged(t, request{long, long, long, long})
		written(t, asked{r.Intn(12), long, long, long, anyInt(r), anyInt(r)}.ask())
		written(t, api.Ask{Kind: r.Intn(12), Name: long})
	}
	if a, code := route.Parse(api.Request{}); flat(a) != (asked{}) || code != 404 {
		t.Error(a, code)
	}
	if x, e := route.Print(api.Ask{}); flatRequest(x) != (request{}) || e != api.ErrArg {
		t.Error(x, e)
	}
}
