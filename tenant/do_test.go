package tenant_test

import (
	"fmt"
	"math/rand"
	"strings"
	"testing"

	"inquest/api"
)

// noNames are texts that are no names.
func noNames() []string {
	return []string{"", "A", "1", "1a", "-a", "a_b", "a b", " a", "a ", "a/b", "a\n", "\x00", "a\x00", "é", "a2345678901234567", strings.Repeat("a", 1000)}
}

// names are names, from the shortest to the longest.
func names() []string {
	return []string{"a", "z", "a0", "a-", "z9-", "abcdefghijklmno", "a234567890123456", "a---------------"}
}

// P22.2: of another Kind 400, whatever else is asked.
func TestOtherKinds(t *testing.T) {
	p := made(t, wide, 200)
	p.knows(t)
	p.submits(t, asked{"set", "cell", 5})
	for _, kind := range []int{0, -1, 11, 12, 100, 256 + 1, 1<<32 + 1, least, least + 1, greatest} {
		p.tells(t, api.Ask{Kind: kind}, 0, 400, "")
		p.tells(t, api.Ask{Kind: kind, Name: "set", Spec: "cell", Body: []byte("\x00"), A: 0, B: 1}, 5, 400, "")
	}
	p.stands(t)
}

// P22.2: uploads: bytes of any kind go behind one another, none as well.
func TestPut(t *testing.T) {
	p := made(t, wide, 400)
	for _, name := range names() {
		ask := func(b string) api.Ask { return api.Ask{Kind: api.APut, Name: name, Body: []byte(b)} }
		p.tells(t, ask(""), 0, 200, "0")
		p.stands(t)
		p.tells(t, ask("\x00"), 0, 200, "1")
		p.tells(t, api.Ask{Kind: api.APut, Name: name}, 0, 200, "1")
		p.tells(t, ask("abc\xff"), -1, 200, "5")
		p.stands(t)
		p.tells(t, ask(strings.Repeat("x", 95)), greatest, 200, "100")
		p.stands(t)
	}
	for _, name := range noNames() {
		for _, b := range []string{"", "abc", strings.Repeat("x", 4097)} {
			p.tells(t, api.Ask{Kind: api.APut, Name: name, Body: []byte(b)}, 0, 400, "")
		}
	}
	p.stands(t)
}

// P22.2: pieces up to exactly 4096 bytes together, and of one more: 413; in one piece, and in several.
func TestPutTooMuch(t *testing.T) {
	p := made(t, wide, 4000)
	for k, pieces := range [][]int{{4096}, {4095, 1}, {1, 4095}, {0, 4096}, {2048, 2048}, {1000, 1000, 1000, 1000, 96}, {4096, 0}} {
		name := fmt.Sprintf("a%d", k)
		all := 0
		for _, n := range pieces {
			for _, more := range []int{4097 - all, 4098 - all, 5000, 100000} {
				p.tells(t, api.Ask{Kind: api.APut, Name: name, Body: make([]byte, more)}, 0, 413, "")
			}
			all += n
			p.tells(t, api.Ask{Kind: api.APut, Name: name, Body: []byte(strings.Repeat("y", n))}, 0, 200, fmt.Sprint(all))
		}
		p.tells(t, api.Ask{Kind: api.APut, Name: name, Body: []byte("z")}, 0, 413, "")
		p.tells(t, api.Ask{Kind: api.APut, Name: name}, 0, 200, "4096")
		p.stands(t)
	}
}

// P22.2: of a name that a history has 409, ahead of 413.
func TestPutThere(t *testing.T) {
	p := made(t, wide, 400)
	p.knows(t)
	for name := range histories() {
		for _, b := range [][]byte{nil, {0}, make([]byte, 4096), make([]byte, 4097)} {
			p.tells(t, api.Ask{Kind: api.APut, Name: name, Body: b}, 0, 409, "")
		}
	}
	for name := range specs() {
		p.tells(t, api.Ask{Kind: api.APut, Name: name, Body: []byte("x")}, 0, 200, "1")
	}
	p.stands(t)
}

// P22.2: each history that hist.Decode takes is sealed; it tells how many operations it has; then there is no upload, and 409.
func TestSeal(t *testing.T) {
	many := []api.Event{}
	for k := range 64 {
		many = append(many, call(k%16, k%16, int64(k)<<k), answer(k%16, -int64(k)))
	}
	l := map[string]string{
		"\x00": "0", "\x01\x01\x00\x00": "1",
		string(text(call(15, 15, least), answer(15, greatest))): "1",
		string(text(many...)):        "64",
		string(text(many[:127]...)):  "64",
		string(text(many[:126]...)):  "63",
		string(histories()["open"]):  "2",
		string(histories()["turn"]):  "2",
		string(histories()["great"]): "13",
		string(crowd(16, 7)):         "16",
		string(text(call(0, 0, 0), call(1, 0, 0), answer(0, 0), call(0, 0, 0))): "3",
	}
	p := made(t, wide, 1000)
	k := 0
	for b, ops := range l {
		name := fmt.Sprintf("a%d", k)
		k++
		p.tells(t, api.Ask{Kind: api.ASeal, Name: name}, 0, 404, "")
		p.tells(t, api.Ask{Kind: api.APut, Name: name, Body: []byte(b[:len(b)/2])}, 0, 200, fmt.Sprint(len(b)/2))
		p.tells(t, api.Ask{Kind: api.APut, Name: name, Body: []byte(b[len(b)/2:])}, 0, 200, fmt.Sprint(len(b)))
		p.tells(t, api.Ask{Kind: api.ASeal, Name: name}, least, 200, ops)
		p.stands(t)
		p.tells(t, api.Ask{Kind: api.ASeal, Name: name}, 0, 409, "")
		p.tells(t, api.Ask{Kind: api.APut, Name: name}, 0, 409, "")
		p.stands(t)
	}
}

// P22.2: what hist.Decode refuses is 422, and the upload is as it was: what is missing may come behind.
func TestSealRefused(t *testing.T) {
	p := made(t, wide, 2000)
	for k, b := range []string{"", "\x01", "\x00\x00", "\x80", "\x80\x00", "\x01\x20\x00", "\x01\x01\x10\x00", "\x81\x01", "\xff\xff\xff\xff\xff\xff\xff\xff\xff\x7f", "\x01\x00\x00", "\x02\x01\x00\x00\x01\x00\x00", string(histories()["turn"]) + "\x00", strings.Repeat("\x00", 4096), strings.Repeat("\xff", 4096)} {
		name := fmt.Sprintf("a%d", k)
		p.tells(t, api.Ask{Kind: api.APut, Name: name, Body: []byte(b)}, 0, 200, fmt.Sprint(len(b)))
		p.tells(t, api.Ask{Kind: api.ASeal, Name: name}, 0, 422, "")
		p.tells(t, api.Ask{Kind: api.ASeal, Name: name}, 0, 422, "")
		p.stands(t)
	}
	p.tells(t, api.Ask{Kind: api.APut, Name: "a1", Body: []byte("\x01\x00")}, 0, 200, "3")
	p.tells(t, api.Ask{Kind: api.ASeal, Name: "a1"}, 0, 422, "")
	p.tells(t, api.Ask{Kind: api.APut, Name: "a1", Body: []byte("\x00")}, 0, 200, "4")
	p.tells(t, api.Ask{Kind: api.ASeal, Name: "a1"}, 0, 200, "1")
	for _, name := range noNames() {
		p.tells(t, api.Ask{Kind: api.ASeal, Name: name}, 0, 400, "")
	}
	p.stands(t)
}

// P22.2: texts by chance, of which some are histories and code: what they are told is what the decoders say.
func TestTextsByChance(t *testing.T) {
	r := rand.New(rand.NewSource(2202))
	met := map[int]int{}
	for range 12 {
		p := made(t, wide, 4000)
		for k := range 300 {
			b := make([]byte, r.Intn(8))
			for i := range b {
				b[i] = byte(r.Intn(4))
			}
			if r.Intn(3) == 0 && len(b) > 1 {
				b[len(b)-1] = byte(18 + r.Intn(2))
			}
			name := fmt.Sprintf("a%d", k)
			p.do(t, api.Ask{Kind: api.APut, Name: name, Body: b}, 0)
			met[1000+p.do(t, api.Ask{Kind: api.ASeal, Name: name}, 0)]++
			met[p.do(t, api.Ask{Kind: api.ASpec, Name: name, Body: b}, 0)]++
		}
		p.stands(t)
	}
	often(t, met, 20, 1200, 1422, 200, 422)
}

// P22.2: specifications: how many instructions they have; 409 of a name that is there, 422 of what code.Decode refuses.
func TestSpec(t *testing.T) {
	long := make([]api.Ins, 200)
	for i := range long {
		long[i] = api.Ins{Op: api.IJump, N: int64(199 - i)}
	}
	long[0] = api.Ins{Op: api.IRefuse}
	great := append(make([]api.Ins, 0), api.Ins{Op: api.IPush, N: least}, api.Ins{Op: api.IAnswer})
	l := []struct {
		body, count string
	}{
		{"\x01\x13", "1"}, {string(spec(long...)), "200"}, {string(spec(great...)), "2"}, {string(specs()["cell"]), "8"}, {string(specs()["echo"]), "2"}, {string(specs()["ever"]), "1"},
	}
	p := made(t, wide, 2000)
	for k, x := range l {
		name := names()[k]
		for _, bad := range []string{"", "\x00", "\x01", "\x01\x14", "\x01\x01", "\x01\x13\x13", "\x02\x13", "\x01\x00\x00", "\xc9\x01", "\x80\x00", x.body + "\x00", x.body[:len(x.body)-1], strings.Repeat("\x01", 5000), strings.Repeat("\x00", 1<<16)} {
			p.tells(t, api.Ask{Kind: api.ASpec, Name: name, Body: []byte(bad)}, 0, 422, "")
		}
		p.stands(t)
		p.tells(t, api.Ask{Kind: api.ASpec, Name: name, Body: []byte(x.body)}, greatest, 200, x.count)
		p.stands(t)
		for _, again := range []string{x.body, "\x01\x13", "", "\xff"} {
			p.tells(t, api.Ask{Kind: api.ASpec, Name: name, Body: []byte(again)}, 0, 409, "")
		}
	}
	p.tells(t, api.Ask{Kind: api.ASpec, Name: "b"}, 0, 422, "")
	for _, name := range noNames() {
		for _, b := range []string{"", "\x01\x13", "\xff"} {
			p.tells(t, api.Ask{Kind: api.ASpec, Name: name, Body: []byte(b)}, 0, 400, "")
		}
	}
	p.stands(t)
}

// P22.2: uploads, histories and specifications of one name have nothing to do with one another, but for uploads and histories.
func TestOneName(t *testing.T) {
	p := made(t, wide, 100)
	p.tells(t, api.Ask{Kind: api.APut, Name: "a", Body: []byte{0}}, 0, 200, "1")
	p.tells(t, api.Ask{Kind: api.ASpec, Name: "a", Body: []byte{1, 19}}, 0, 200, "1")
	p.tells(t, api.Ask{Kind: api.ASubmit, Name: "a", Spec: "a"}, 0, 404, "")
	p.tells(t, api.Ask{Kind: api.ASeal, Name: "a"}, 0, 200, "0")
	p.tells(t, api.Ask{Kind: api.ASubmit, Name: "a", Spec: "a"}, 0, 200, "0")
	p.stands(t)
}

// P22.2: a job for each time that may be; its number is told.
func TestSubmit(t *testing.T) {
	p := made(t, wide, 1000)
	p.knows(t)
	for k, now := range []int{0, 1, 9, 10, 1 << 20, mostTime - 1, mostTime} {
		p.tells(t, api.Ask{Kind: api.ASubmit, Name: "turn", Spec: "cell", A: 7, B: 9, Body: []byte("x")}, now, 200, fmt.Sprint(k))
		p.stands(t)
	}
	for _, now := range []int{-1, mostTime + 1, least, greatest, -mostTime, 1 << 62} {
		p.tells(t, api.Ask{Kind: api.ASubmit, Name: "turn", Spec: "cell"}, now, 400, "")
	}
	p.stands(t)
	p.all(t)
	p.proves(t)
}

// P22.2: names of all lengths in a job.
func TestSubmitNames(t *testing.T) {
	p := made(t, wide, 2000)
	for _, name := range names() {
		p.done(t, api.Ask{Kind: api.APut, Name: name, Body: histories()["set"]}, api.Ask{Kind: api.ASeal, Name: name}, api.Ask{Kind: api.ASpec, Name: name, Body: specs()["cell"]})
	}
	for k, name := range names() {
		other := names()[len(names())-1-k]
		p.submits(t, asked{name, other, mostTime}, asked{other, name, 0})
		p.stands(t)
		p.anew(t, wide)
		p.all(t)
		p.proves(t)
	}
}

// P22.2, R2: what is wrong with a job, the first that fits: 400, 404, 429, 400, 507.
func TestSubmitFirst(t *testing.T) {
	for _, full := range []bool{false, true} {
		p := made(t, api.Limits{Quota: 1 << 20, Queue: 2, Fuel: 9, Budget: 9}, 1000)
		p.knows(t)
		p.done(t, api.Ask{Kind: api.APut, Name: "up", Body: []byte{0}})
		if full {
			p.submits(t, asked{"set", "cell", 5}, asked{"set", "cell", 6})
		}
		few := p.w.lim
		few.Quota = 0
		p.anew(t, few)
		for _, now := range []int{0, 5, mostTime, -1, mostTime + 1, least, greatest} {
			for _, bad := range noNames() {
				for _, other := range []string{"set", "cell", "gone", "", "A"} {
					p.tells(t, api.Ask{Kind: api.ASubmit, Name: bad, Spec: other}, now, 400, "")
					p.tells(t, api.Ask{Kind: api.ASubmit, Name: other, Spec: bad}, now, 400, "")
				}
			}
			for _, names := range [][2]string{{"gone", "cell"}, {"set", "gone"}, {"gone", "gone"}, {"cell", "cell"}, {"set", "set"}, {"cell", "set"}, {"up", "cell"}, {"set", "up"}} {
				p.tells(t, api.Ask{Kind: api.ASubmit, Name: names[0], Spec: names[1]}, now, 404, "")
			}
			code := 507
			if full {
				code = 429
			} else if now < 0 || now > mostTime {
				code = 400
			}
			p.tells(t, api.Ask{Kind: api.ASubmit, Name: "set", Spec: "cell"}, now, code, "")
		}
		p.stands(t)
	}
}

// P22.2: of each Queue as many jobs wait as it says; where one is done, one more may wait.
func TestQueue(t *testing.T) {
	for queue := 1; queue <= mostWait; queue++ {
		lim := wide
		lim.Queue = queue
		p := made(t, lim, 1000)
		p.knows(t)
		n := 0
		more := api.Ask{Kind: api.ASubmit, Name: "set", Spec: "cell"}
		for range queue {
			p.tells(t, more, n, 200, fmt.Sprint(n))
			n++
		}
		for range 5 {
			p.tells(t, more, n, 429, "")
			p.stands(t)
			p.step(t, greatest)
			p.tells(t, more, n, 200, fmt.Sprint(n))
			n++
		}
		p.tells(t, more, least, 429, "")
	}
}

// P22.2: up to 64 jobs in all, then 429, though none waits.
func TestAllJobs(t *testing.T) {
	p := made(t, wide, 2000)
	p.knows(t)
	more := api.Ask{Kind: api.ASubmit, Name: "turn", Spec: "cell"}
	for n := range mostJobs {
		p.tells(t, more, n, 200, fmt.Sprint(n))
		if n%8 == 7 {
			p.stands(t)
			p.all(t)
			p.stands(t)
		}
	}
	p.tells(t, more, 5, 429, "")
	p.tells(t, more, -1, 429, "")
	p.stands(t)
	p.anew(t, wide)
	p.tells(t, more, 5, 429, "")
	p.stands(t)
}

// P22.2: as many jobs as there may be, of which some wait.
func TestAllJobsWait(t *testing.T) {
	p := made(t, wide, 2000)
	p.knows(t)
	for n := range mostJobs {
		if p.w.waits() == mostWait {
			p.step(t, greatest)
		}
		p.submits(t, asked{"set", "cell", n})
	}
	more := api.Ask{Kind: api.ASubmit, Name: "turn", Spec: "cell"}
	for p.w.waits() > 0 {
		p.tells(t, more, 5, 429, "")
		p.stands(t)
		p.anew(t, wide)
		p.stands(t)
		p.step(t, greatest)
	}
	p.tells(t, more, 5, 429, "")
}
