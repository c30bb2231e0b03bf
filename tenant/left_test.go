package tenant_test

import (
	"fmt"
	"maps"
	"math/rand"
	"regexp"
	"strconv"
	"strings"
	"testing"

	"inquest/api"
	"inquest/code"
	"inquest/disk"
	"inquest/entry"
	"inquest/hist"
	"inquest/tenant"
)

// What the chapter says of a tenant's store, written anew: which content one leaves there.

var (
	namedForm    = regexp.MustCompile(`^([uhs])/([a-z][a-z0-9-]{0,15})$`)
	numberedForm = regexp.MustCompile(`^([je])/([0-9][0-9])$`)
	jobForm      = regexp.MustCompile(`^([a-z][a-z0-9-]{0,15}) ([a-z][a-z0-9-]{0,15}) (0|[1-9][0-9]{0,17}) *$`)
)

// isLeft tells whether a tenant leaves this content.
func isLeft(content map[string]string) bool {
	waits, done := 0, 0
	for key, value := range content {
		if m := namedForm.FindStringSubmatch(key); m != nil {
			if !isNamed(content, m[1], m[2], value) {
				return false
			}
			continue
		}
		m := numberedForm.FindStringSubmatch(key)
		if m == nil {
			return false
		}
		n, _ := strconv.Atoi(m[2])
		if m[1] == "j" && isJob(content, value) {
			waits++
		} else if m[1] == "e" && isEntry(n, value) {
			done++
		} else {
			return false
		}
	}
	if waits > mostWait || waits+done > mostJobs {
		return false
	}
	for n := range waits + done {
		front := "e"
		if n >= done {
			front = "j"
		}
		if _, there := content[fmt.Sprintf("%s/%02d", front, n)]; !there {
			return false
		}
	}
	return true
}

// isNamed tells whether an upload, a history or a specification may be so.
func isNamed(content map[string]string, front, name, value string) bool {
	switch front {
	case "u":
		_, there := content["h/"+name]
		return !there
	case "h":
		_, err := hist.Decode([]byte(value))
		return err == api.OK
	}
	_, err := code.Decode([]byte(value))
	return err == api.OK
}

// isJob tells whether a waiting job's value may be so.
func isJob(content map[string]string, value string) bool {
	m := jobForm.FindStringSubmatch(value)
	if len(value) != 160 || m == nil {
		return false
	}
	time, _ := strconv.Atoi(m[3])
	_, there := content["h/"+m[1]]
	_, too := content["s/"+m[2]]
	return time <= mostTime && there && too
}

// isEntry tells whether entry n may be so.
func isEntry(n int, value string) bool {
	e, err := entry.Decode([]byte(value))
	return err == api.OK && e.Job == n
}

// right answers the content of a tenant that has something of each kind.
func right() map[string]string {
	w := nothing(wide, "key", 1)
	for name, b := range specs() {
		w.specs[name] = string(b)
	}
	for name, b := range histories() {
		w.histories[name] = string(b)
	}
	delete(w.histories, "great")
	w.uploads = map[string]string{"up": "abc", "cell": "", "a234567890123456": "\x00"}
	w.jobs = []asked{{"empty", "none", 0}, {"turn", "cell", 5}, {"set", "cell", mostTime}, {"wrong", "echo", 1}}
	w.entries = append(w.entries, w.entryOf(0))
	w.entries = append(w.entries, w.entryOf(1))
	return w.content()
}

// change answers a content with something else in it.
func change(content map[string]string, keysAndValues ...string) map[string]string {
	all := maps.Clone(content)
	for k := 0; k < len(keysAndValues); k += 2 {
		all[keysAndValues[k]] = keysAndValues[k+1]
	}
	return all
}

// without answers a content without some keys.
func without(content map[string]string, keys ...string) map[string]string {
	all := maps.Clone(content)
	for _, key := range keys {
		delete(all, key)
	}
	return all
}

// opens holds Open of a content against the words: ErrForm and nil, or a tenant that tells the same. It answers whether it is one.
func opens(t *testing.T, content map[string]string) bool {
	t.Helper()
	sectors := 1
	for key, value := range content {
		sectors += 1 + (len(key)+len(value)+26)/64
	}
	return opensOn(t, laid(t, sectors, content), content)
}

// opensOn does so on a disk that has this content.
func opensOn(t *testing.T, d *disk.Disk, content map[string]string) bool {
	t.Helper()
	x, err := tenant.Open(d, wide, []byte("key"))
	if d.Open() != 0 {
		t.Fatalf("%q: something was written", content)
	}
	if !isLeft(content) {
		if x != nil || err != api.ErrForm {
			t.Fatalf("%q: a tenant %t, error %d", content, x != nil, err)
		}
		return false
	}
	if x == nil || err != api.OK {
		t.Fatalf("%q: a tenant %t, error %d", content, x != nil, err)
	}
	if !maps.Equal(held(x.Store()), content) {
		t.Fatalf("%q: %q", content, held(x.Store()))
	}
	return true
}

// asks asks for what Open has to say of contents.
func asks(t *testing.T, may bool, l ...map[string]string) {
	t.Helper()
	for _, content := range l {
		if got := opens(t, content); got != may {
			t.Errorf("%q: %t", content, got)
		}
	}
}

// P22.1: what is right but for nothing.
func TestLeftRight(t *testing.T) {
	asks(t, true, right(), without(right(), "j/03"), without(right(), "j/02", "j/03"), without(right(), "u/up"), map[string]string{})
	p := pair{opened(t, laid(t, 400, right()), wide, []byte("key")), nil, nil}
	for n, want := range []string{"done fits 0 -", "done fits 4 1,0", "waiting", "waiting"} {
		if got := p.x.Do(api.Ask{Kind: api.AJob, A: n}, 0); got.Code != 200 || string(got.Body) != want {
			t.Errorf("job %d: %d %q", n, got.Code, got.Body)
		}
	}
}

// P22.1: keys that are none of the chapter's kinds: ErrForm, whatever value they have.
func TestLeftOtherKeys(t *testing.T) {
	values := []string{"", "\x00", "\x01\x13", right()["e/00"], right()["j/02"]}
	for _, key := range []string{"!", "~", "/", "//", "u", "h", "s", "j", "e", "a", "ua", "ha", "sa", "ea", "e00", "j00", "j04", "U/a", "E/02", "J/04", "a/a", "d/02", "f/02", "i/04", "k/04", "t/a", "v/a", "r/a", "g/a", "uu/a", "u//", "u:a", "s.a", "/u/a", "e/", "j/", "u/", "h/", "s/", "x/a", strings.Repeat("u", 40), "u/" + strings.Repeat("a", 38)} {
		for _, value := range values {
			asks(t, false, change(right(), key, value))
		}
	}
}

// P22.1: names that are none, of each kind that has names.
func TestLeftNames(t *testing.T) {
	for front, value := range map[string]string{"u/": "abc", "h/": "\x00", "s/": "\x01\x13"} {
		for _, name := range []string{"a", "z", "a-", "a0", "a9-z", "a234567890123456", "abcdefghijklmnop"} {
			asks(t, true, change(without(right(), "u/a234567890123456"), front+name, value))
		}
		for _, name := range []string{"", "A", "aB", "1", "1a", "-", "-a", "a_b", "a.b", "a/b", "a~", "a2345678901234567", "abcdefghijklmnopqrstuvwxyz"} {
			asks(t, false, change(right(), front+name, value))
		}
		for c := byte(33); c <= 126; c++ {
			opens(t, change(right(), front+string(c), value))
			opens(t, change(right(), front+"a"+string(c), value))
			opens(t, change(right(), front+"a"+string(c)+"b", value))
		}
	}
}

// entryAt answers an entry's text, of that number.
func entryAt(n int) string {
	return entryText(api.Entry{Job: n, Time: 7, Verdict: api.Verdict{Kind: api.FitsNot, Tries: 2}})
}

// P22.1: job numbers that are no two digits, of jobs that wait and that are done.
func TestLeftNumbers(t *testing.T) {
	for _, digits := range []string{"2", "002", "0002", "+2", "-2", "0a", "a0", "ab", "2a", "0x2", "2.", "0-", "/2", "2/", "20", "64", "63", "99", "03", "04"} {
		asks(t, false, change(without(right(), "j/02", "j/03"), "e/"+digits, entryAt(2)))
	}
	for _, digits := range []string{"4", "004", "+4", "-4", "0a", "a0", "4.", "40", "64", "63", "99", "05", "06"} {
		asks(t, false, change(right(), "j/"+digits, right()["j/02"]))
	}
	for a := byte(33); a <= 126; a++ {
		for b := byte(33); b <= 126; b++ {
			opens(t, change(without(right(), "j/03"), "j/"+string(a)+string(b), right()["j/03"]))
		}
	}
}

// P22.1: numbers that leave one out, an entry behind a job that waits, the same number waiting and done.
func TestLeftOrder(t *testing.T) {
	r := right()
	asks(t, false, without(r, "e/00"), without(r, "e/01"), without(r, "j/02"), without(r, "e/00", "e/01"), without(r, "e/00", "e/01", "j/02"), without(r, "e/01", "j/02"))
	asks(t, false, change(r, "e/04", entryAt(4)), change(without(r, "j/03"), "e/03", entryAt(3)), change(without(r, "j/02", "e/01"), "j/01", r["j/02"], "e/02", entryAt(2)))
	asks(t, false, change(r, "e/02", entryAt(2)), change(r, "e/03", entryAt(3)), change(r, "j/00", r["j/02"]), change(r, "j/01", r["j/02"]), change(r, "j/00", r["j/02"], "j/01", r["j/02"]))
	asks(t, true, change(without(r, "j/02"), "e/02", entryAt(2)), change(r, "j/04", r["j/02"]), change(without(r, "j/02", "j/03"), "e/02", entryAt(2), "e/03", entryAt(3), "e/04", entryAt(4)))
	// All of which jobs there are, of the first five: those that wait and those that are done.
	for waits := range 1 << 5 {
		for done := range 1 << 5 {
			content := without(r, "j/02", "j/03", "e/00", "e/01")
			for n := range 5 {
				if waits>>n&1 == 1 {
					content[fmt.Sprintf("j/%02d", n)] = r["j/02"]
				}
				if done>>n&1 == 1 {
					content[fmt.Sprintf("e/%02d", n)] = entryAt(n)
				}
			}
			opens(t, content)
		}
	}
}

// many answers a content with so many entries, and jobs that wait behind them.
func many(done, waits int) map[string]string {
	content := without(right(), "j/02", "j/03", "e/00", "e/01", "h/crowd", "h/open", "s/ever")
	for n := range done + waits {
		if n >= done {
			content[fmt.Sprintf("j/%02d", n)] = right()["j/02"]
		} else if n < mostJobs {
			content[fmt.Sprintf("e/%02d", n)] = entryAt(n)
		} else {
			content[fmt.Sprintf("e/%02d", n)] = entryAt(63)
		}
	}
	return content
}

// P22.1: up to 64 jobs, of which up to 8 wait; no more.
func TestLeftMany(t *testing.T) {
	for done := range 67 {
		for waits := range 11 {
			if done > 3 && done < 53 {
				continue
			}
			asks(t, done+waits <= 64 && waits <= 8, many(done, waits))
		}
	}
}

// P22.1: an upload and a history of one name; of an upload and a specification it may be.
func TestLeftTwice(t *testing.T) {
	for name := range histories() {
		if name != "great" {
			asks(t, false, change(right(), "u/"+name, "abc"), change(right(), "u/"+name, ""))
		}
	}
	asks(t, false, change(right(), "h/up", "\x00"), change(right(), "h/cell", "\x00"), change(right(), "h/a234567890123456", "\x00"))
	asks(t, true, change(without(right(), "u/up"), "h/up", "\x00"), change(right(), "s/up", "\x01\x13"), change(right(), "u/none", "\x00"))
}

// P22.1: uploads are any bytes.
func TestLeftUploads(t *testing.T) {
	for _, s := range []string{"", "\x00", "x", "\xff\xff", strings.Repeat("a", 4095), strings.Repeat("\x00", 4096)} {
		asks(t, true, change(right(), "u/up", s))
	}
}

// P22.1: histories, specifications and entries that can't be read.
func TestLeftUnread(t *testing.T) {
	r := right()
	for key, value := range r {
		if key[0] != 'h' && key[0] != 's' && key[0] != 'e' {
			continue
		}
		asks(t, false, change(r, key, ""), change(r, key, value+"\x00"), change(r, key, value[:len(value)-1]), change(r, key, "\xff"))
		for at := range value {
			b := []byte(value)
			b[at] ^= 0x80
			opens(t, change(r, key, string(b)))
			opens(t, change(r, key, value[:at]))
		}
	}
	asks(t, false, change(r, "h/a", r["s/cell"]), change(r, "s/a", r["h/set"]), change(r, "e/01", r["j/02"]), change(r, "j/02", r["e/01"]))
}

// P22.1: an entry whose Job is another number.
func TestLeftOtherJob(t *testing.T) {
	r := right()
	for n := range mostJobs {
		asks(t, n == 0, change(r, "e/00", entryAt(n)))
		asks(t, n == 1, change(r, "e/01", entryAt(n)))
	}
	asks(t, false, change(r, "e/00", r["e/01"], "e/01", r["e/00"]))
}

// padded answers a text with blanks behind it, n bytes in all.
func padded(s string, n int) string { return s + strings.Repeat(" ", n-len(s)) }

// P22.1: a waiting job's value of another length, of names that are none, with a time that is none, of what is not there.
func TestLeftJobs(t *testing.T) {
	long := change(right(), "h/a234567890123456", "\x00", "s/abcdefghijklmnop", "\x01\x13")
	long = without(long, "u/a234567890123456")
	with := func(value string) map[string]string { return change(long, "j/02", value) }
	for _, n := range []int{0, 1, 9, 14, 100, 159, 161, 162, 320, 4096} {
		asks(t, false, with(padded("set cell 5"[:min(n, 10)], n)))
	}
	for _, s := range []string{"set cell 5", "set cell 0", "set none 9", "turn ever 123456789012", "set cell 1099511627776", "set cell 1099511627775", "a234567890123456 abcdefghijklmnop 1099511627776"} {
		asks(t, true, with(padded(s, 160)))
	}
	for _, s := range []string{
		"", "set", "set cell", "5", "set 5", "cell 5", "set cell 5 5", "set cell 5 x", "set cell cell 5", " set cell 5", "set  cell 5", "set cell  5",
		"Set cell 5", "set Cell 5", "1 cell 5", "set - 5", "set ce_ll 5", "a2345678901234567 cell 5", "set a2345678901234567 5",
		"set cell -1", "set cell +1", "set cell -0", "set cell 05", "set cell 00", "set cell x", "set cell 5x", "set cell 0x5", "set cell 1.0", "set cell 1e3",
		"set cell 1099511627777", "set cell 9223372036854775807", "set cell 9223372036854775808", "set cell 18446744073709551621", "set cell 99999999999999999999999",
		"great cell 5", "cell cell 5", "up cell 5", "set set 5", "set up 5", "set gone 5", "gone cell 5", "h/set cell 5", "set s/cell 5",
		"set\tcell\t5", "set cell 5\n", "set cell 5\x00", "set cell 5\t", "set,cell,5", "\x00set cell 5",
	} {
		asks(t, false, with(padded(s, 160)))
	}
	asks(t, false, with(padded("set cell 5", 159)+"x"), with(padded("set cell 5", 159)+"\x00"), with(padded("set cell 5", 100)+padded("6", 60)), with(strings.Repeat("\x00", 160)), with(strings.Repeat(" ", 160)), with(" "+padded("set cell 5", 159)), with("set cell "+strings.Repeat("0", 150)+"5"))
	asks(t, false, without(right(), "h/wrong"), without(right(), "s/echo"), without(right(), "h/set"), without(right(), "s/cell"))
	asks(t, true, without(right(), "h/turn"), without(right(), "s/none"))
}

// P22.1: each byte, at each place of a waiting job's value.
func TestLeftJobBytes(t *testing.T) {
	content := map[string]string{"h/set": string(histories()["set"]), "s/cell": string(specs()["cell"])}
	met := map[bool]int{}
	for at := range 160 {
		for c := range 256 {
			if at > 12 && at < 155 && c%16 > 0 {
				continue
			}
			b := []byte(padded("set cell 57", 160))
			b[at] = byte(c)
			content["j/00"] = string(b)
			met[opensOn(t, laid(t, 9, content), content)]++
		}
	}
	often(t, met, 30, true, false)
}

// spoil changes something in a content by chance.
func spoil(r *rand.Rand, content map[string]string) {
	keys := sorted(content)
	key := keys[r.Intn(len(keys))]
	other := keys[r.Intn(len(keys))]
	value := content[key]
	switch r.Intn(8) {
	case 0:
		delete(content, key)
	case 1:
		content[key] = content[other]
	case 2:
		b := []byte(value + " ")
		b[r.Intn(len(b))] = byte(r.Intn(256))
		content[key] = string(b[:max(len(b)-r.Intn(3), 0)])
	case 3:
		b := []byte(key)
		b[r.Intn(len(b))] = "uhsje/0123abz-A!"[r.Intn(16)]
		content[string(b)] = value
	case 4:
		content[key[:1+r.Intn(len(key))]] = value
	case 5:
		n := r.Intn(7)
		delete(content, fmt.Sprintf("j/%02d", n))
		content[fmt.Sprintf("e/%02d", n)] = entryAt(n)
	case 6:
		n := r.Intn(7)
		delete(content, fmt.Sprintf("e/%02d", n))
		content[fmt.Sprintf("j/%02d", n)] = padded(fmt.Sprintf("%s %s %d", other[min(2, len(other)):], strings.TrimLeft(key, "hus/"), r.Intn(1<<41)), 160)
	case 7:
		if len(key) > 2 {
			content["uhs"[r.Intn(3):][:1]+"/"+key[2:]] = value
		}
	}
}

// P22.1: contents by chance, with something changed.
func TestLeftByChance(t *testing.T) {
	r := rand.New(rand.NewSource(2201))
	met := map[bool]int{}
	for range 6000 {
		content := right()
		for range 1 + r.Intn(3) {
			if len(content) > 0 {
				spoil(r, content)
			}
		}
		met[opens(t, content)]++
	}
	often(t, met, 500, true, false)
}
