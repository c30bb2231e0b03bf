package tenant_test

import (
	"fmt"
	"maps"
	"strings"
	"testing"

	"inquest/api"
	"inquest/hist"
	"inquest/store"
)

// within answers limits with this Quota.
func within(quota int) api.Limits {
	lim := wide
	lim.Quota = quota
	return lim
}

// bytes answers how many bytes a tenant uses.
func (p *pair) bytes() int { return used(p.w.content()) }

// noRoom asks for 507, and that nothing is changed then: the disk, the usage, every answer.
func (p *pair) noRoom(t *testing.T, a api.Ask, now int) {
	t.Helper()
	p.refused(t, a, now, 507)
}

// refused asks for a status that says that nothing is done, and that nothing is changed then.
func (p *pair) refused(t *testing.T, a api.Ask, now, code int) {
	t.Helper()
	was := bytesOf(t, p.d)
	p.tells(t, a, now, code, "")
	if p.d.Open() != 0 || bytesOf(t, p.d) != was {
		t.Fatalf("%+v: the disk is another one", a)
	}
	p.stands(t)
}

// P22.2, P22.6: an upload has room or not: each number of bytes, of each Quota, from too few to just enough; then what comes behind it.
func TestRoomToPut(t *testing.T) {
	for quota := range 40 {
		for n := range 40 {
			p := made(t, within(quota), 9)
			ask := api.Ask{Kind: api.APut, Name: "abc", Body: []byte(strings.Repeat("x", n))}
			if 5+n > quota {
				p.noRoom(t, ask, 0)
				continue
			}
			p.tells(t, ask, 0, 200, fmt.Sprint(n))
			p.stands(t)
			more := quota - 5 - n
			p.noRoom(t, api.Ask{Kind: api.APut, Name: "abc", Body: make([]byte, more+1)}, 0)
			p.tells(t, api.Ask{Kind: api.APut, Name: "abc", Body: make([]byte, more)}, 0, 200, fmt.Sprint(n+more))
			p.tells(t, api.Ask{Kind: api.APut, Name: "abc"}, 0, 200, fmt.Sprint(n+more))
			p.noRoom(t, api.Ask{Kind: api.APut, Name: "a"}, 0)
		}
	}
}

// P22.2, P22.6: a specification has room or not; where it has none, 409 and 422 come ahead.
func TestRoomToSpecify(t *testing.T) {
	for name, b := range specs() {
		enough := 2 + len(name) + len(b)
		for quota := range enough + 2 {
			p := made(t, within(quota), 9)
			ask := api.Ask{Kind: api.ASpec, Name: name, Body: b}
			if quota < enough {
				p.tells(t, api.Ask{Kind: api.ASpec, Name: name, Body: b[1:]}, 0, 422, "")
				p.noRoom(t, ask, 0)
				continue
			}
			p.done(t, ask)
			p.refused(t, ask, 0, 409)
			p.noRoom(t, api.Ask{Kind: api.ASpec, Name: "a" + name, Body: b}, 0)
		}
	}
}

// P22.2, P22.6: a job takes 164 bytes; one byte less: 507.
func TestRoomToSubmit(t *testing.T) {
	p := made(t, wide, 400)
	p.knows(t)
	all := p.bytes()
	for _, now := range []int{0, 5, mostTime} {
		for more := range 170 {
			p.anew(t, within(all+more))
			q := pair{nil, diskOf(t, bytesOf(t, p.d)), p.w.copied()}
			q.anew(t, p.w.lim)
			ask := api.Ask{Kind: api.ASubmit, Name: "turn", Spec: "cell"}
			if more < 164 {
				q.noRoom(t, ask, now)
				continue
			}
			q.tells(t, ask, now, 200, "0")
			q.noRoom(t, ask, now)
			q.all(t)
			q.stands(t)
		}
	}
}

// P22.2, P22.6: an upload is sealed however little room there is, since no more bytes are used then.
func TestRoomToSeal(t *testing.T) {
	for _, b := range histories() {
		p := made(t, within(3+len(b)), 60)
		p.done(t, api.Ask{Kind: api.APut, Name: "a", Body: b})
		p.noRoom(t, api.Ask{Kind: api.APut, Name: "a", Body: []byte{0}}, 0)
		p.anew(t, within(0))
		p.done(t, api.Ask{Kind: api.ASeal, Name: "a"})
		p.stands(t)
	}
}

// long answers a history of 64 operations that echo does one behind the other: an entry of it has as long an order as there is.
func long() []byte {
	var l []api.Event
	for k := range 64 {
		l = append(l, call(k%16, 0, int64(k)), answer(k%16, int64(k)))
	}
	return text(l...)
}

// P22.6: a job that waits has the bytes for its entry, also where the Quota is used up to the last byte, or more than that; the longest entries as well.
func TestRoomForEntries(t *testing.T) {
	for _, history := range [][]byte{long(), histories()["crowd"], histories()["empty"]} {
		for _, now := range []int{0, mostTime} {
			p := made(t, wide, 400)
			p.done(t, api.Ask{Kind: api.APut, Name: "a", Body: history}, api.Ask{Kind: api.ASeal, Name: "a"}, api.Ask{Kind: api.ASpec, Name: "echo", Body: specs()["echo"]})
			for range mostWait {
				p.submits(t, asked{"a", "echo", now})
			}
			for _, less := range []int{0, 1, 300, p.bytes() / 2} {
				was := p.bytes()
				p.anew(t, within(was-less))
				p.noRoom(t, api.Ask{Kind: api.APut, Name: "b"}, 0)
				if _, done := p.step(t, greatest); !done || p.bytes() > was {
					t.Fatalf("%d less: done %t, %d bytes behind %d", less, done, p.bytes(), was)
				}
				p.stands(t)
				p.proves(t)
			}
			p.all(t)
			p.stands(t)
		}
	}
}

// P22.6: what an entry leaves of a job's bytes may be used for something else.
func TestRoomBehindEntries(t *testing.T) {
	p := made(t, wide, 200)
	p.done(t, api.Ask{Kind: api.APut, Name: "a", Body: []byte{0}}, api.Ask{Kind: api.ASeal, Name: "a"}, api.Ask{Kind: api.ASpec, Name: "s", Body: []byte{1, 19}})
	p.anew(t, within(p.bytes()+164))
	p.submits(t, asked{"a", "s", 5})
	p.noRoom(t, api.Ask{Kind: api.APut, Name: "b"}, 0)
	p.all(t)
	left := 160 - 69
	p.noRoom(t, api.Ask{Kind: api.ASubmit, Name: "a", Spec: "s"}, 5)
	p.noRoom(t, api.Ask{Kind: api.APut, Name: "b", Body: make([]byte, left-2)}, 0)
	p.tells(t, api.Ask{Kind: api.APut, Name: "b", Body: make([]byte, left-3)}, 0, 200, fmt.Sprint(left-3))
	p.noRoom(t, api.Ask{Kind: api.APut, Name: "b", Body: make([]byte, 1)}, 0)
}

// row is asks that are done one behind the other, and Steps (Kind 0: A tries).
func row() []api.Ask {
	return []api.Ask{
		{Kind: api.APut, Name: "a", Body: histories()["turn"][:3]},
		{Kind: api.ASpec, Name: "cell", Body: specs()["cell"]},
		{Kind: api.APut, Name: "a", Body: histories()["turn"][3:]},
		{Kind: api.ASeal, Name: "a"},
		{Kind: api.APut, Name: "b", Body: histories()["late"]},
		{Kind: api.ASubmit, Name: "a", Spec: "cell"},
		{Kind: api.ASeal, Name: "b"},
		{A: 1},
		{Kind: api.ASubmit, Name: "b", Spec: "cell"},
		{Kind: api.ASubmit, Name: "a", Spec: "cell"},
		{A: 2},
		{A: 9},
		{Kind: api.APut, Name: "c", Body: make([]byte, 100)},
		{A: 9},
		{Kind: api.ASubmit, Name: "b", Spec: "cell"},
		{A: 1},
	}
}

// does does what a row says, and answers whether it was done.
func (p *pair) does(t *testing.T, a api.Ask, now int) bool {
	t.Helper()
	if a.Kind == 0 {
		was := p.w.waits() > 0
		_, done := p.step(t, a.A)
		return !was || done || p.w.tries < p.w.entryOf(len(p.w.entries)).Verdict.Tries
	}
	return p.do(t, a, now) == 200
}

// P22.2, P22.3, P22.6: disks of all sizes, from one on which nothing has room to one on which all has: 507, and a job that waits.
func TestFullDisks(t *testing.T) {
	met := map[string]int{}
	for sectors := 1; sectors <= 45; sectors++ {
		p := made(t, wide, sectors)
		whole := true
		for k, a := range row() {
			was := bytesOf(t, p.d)
			done := p.does(t, a, k)
			whole = whole && done
			if !done && (p.d.Open() != 0 || bytesOf(t, p.d) != was) {
				t.Fatalf("%d sectors: %+v: the disk is another one", sectors, a)
			}
			met[fmt.Sprint(a.Kind, done)]++
			p.stands(t)
		}
		p.anew(t, wide)
		p.stands(t)
		met[fmt.Sprint(whole)]++
	}
	often(t, met, 1, "0 false", "0 true", "1 false", "1 true", "2 false", "2 true", "3 false", "3 true", "4 false", "4 true", "true", "false")
}

// P22.2: on a full disk nothing has room, an empty upload and a seal as well, and 400, 409, 404, 413, 422 come ahead; what is only told is told.
func TestFullDisk(t *testing.T) {
	p := made(t, wide, 60)
	p.knows(t)
	p.done(t, api.Ask{Kind: api.APut, Name: "up", Body: []byte{0}}, api.Ask{Kind: api.APut, Name: "bad"})
	p.submits(t, asked{"set", "cell", 5})
	for k := 0; p.x.Store().Room() >= 0; k++ {
		p.done(t, api.Ask{Kind: api.APut, Name: fmt.Sprintf("f%d", k)})
	}
	for range 2 {
		p.noRoom(t, api.Ask{Kind: api.APut, Name: "up"}, 0)
		p.noRoom(t, api.Ask{Kind: api.APut, Name: "up", Body: []byte("x")}, 0)
		p.noRoom(t, api.Ask{Kind: api.ASeal, Name: "up"}, 0)
		p.noRoom(t, api.Ask{Kind: api.ASpec, Name: "up", Body: []byte{1, 19}}, 0)
		p.noRoom(t, api.Ask{Kind: api.ASubmit, Name: "set", Spec: "cell"}, 0)
		p.refused(t, api.Ask{Kind: api.APut, Name: "Up"}, 0, 400)
		p.refused(t, api.Ask{Kind: api.APut, Name: "set"}, 0, 409)
		p.refused(t, api.Ask{Kind: api.APut, Name: "up", Body: make([]byte, 4096)}, 0, 413)
		p.refused(t, api.Ask{Kind: api.ASeal, Name: "bad"}, 0, 422)
		p.refused(t, api.Ask{Kind: api.ASeal, Name: "gone"}, 0, 404)
		p.refused(t, api.Ask{Kind: api.ASpec, Name: "cell", Body: []byte{1, 19}}, 0, 409)
		p.refused(t, api.Ask{Kind: api.ASpec, Name: "up"}, 0, 422)
		p.refused(t, api.Ask{Kind: api.ASubmit, Name: "set", Spec: "cell"}, -1, 400)
		if n, done := p.step(t, greatest); n != 1 || done {
			t.Fatalf("Step: %d, %t", n, done)
		}
		for _, n := range []int{0, 5, -1, greatest} {
			if n, done := p.step(t, n); n != 0 || done {
				t.Fatalf("Step: %d, %t", n, done)
			}
		}
		p.stands(t)
		p.proves(t)
		p.anew(t, wide)
		p.stands(t)
	}
}

// dark answers a copy of a tenant, opened anew, with so many steps left.
func (p *pair) dark(t *testing.T, steps int) pair {
	t.Helper()
	q := pair{nil, diskOf(t, bytesOf(t, p.d)), p.w.copied()}
	q.anew(t, p.w.lim)
	q.arm(t, steps)
	return q
}

// P22.2, P22.6: the power fails at each step of each commit: 503, and nothing is changed, not even when the power is on again, till it is opened anew; what comes ahead of the commit comes ahead still.
func TestPowerFails(t *testing.T) {
	p := made(t, wide, 200)
	p.knows(t)
	p.done(t, api.Ask{Kind: api.APut, Name: "up", Body: []byte{0}}, api.Ask{Kind: api.APut, Name: "bad"})
	p.submits(t, asked{"set", "cell", 5})
	for _, a := range []api.Ask{
		{Kind: api.APut, Name: "up"},
		{Kind: api.APut, Name: "new", Body: make([]byte, 300)},
		{Kind: api.ASeal, Name: "up"},
		{Kind: api.ASpec, Name: "new", Body: []byte{1, 19}},
		{Kind: api.ASubmit, Name: "turn", Spec: "cell"},
	} {
		n := 0
		for ; ; n++ {
			q := p.dark(t, n)
			if q.do(t, a, 7) == 200 {
				break
			}
			q.stays(t, a)
			must(t, q.d.Crash(nil))
			q.fast(t)
			q.stays(t, a)
			q.w.steps = -1
			q.anew(t, wide)
			q.stands(t)
			q.done(t, a)
		}
		if n < 2 {
			t.Errorf("%+v: %d steps", a, n)
		}
	}
}

// fast asks that a store that is opened on what the disk has now has just what was told.
func (p *pair) fast(t *testing.T) {
	t.Helper()
	s, err := store.Open(diskOf(t, bytesOf(t, p.d)), greatest)
	must(t, err)
	if got, want := held(s), p.w.content(); !maps.Equal(got, want) {
		t.Fatalf("on the disk is %q, not %q", got, want)
	}
}

// stays asks that nothing goes into the store any more, and that all else is told as it was.
func (p *pair) stays(t *testing.T, a api.Ask) {
	t.Helper()
	p.tells(t, a, 7, 503, "")
	p.stands(t)
	p.tells(t, api.Ask{Kind: api.APut, Name: "other"}, 0, 503, "")
	p.tells(t, api.Ask{Kind: api.APut, Name: "set"}, 0, 409, "")
	p.tells(t, api.Ask{Kind: api.APut, Name: "up", Body: make([]byte, 4096)}, 0, 413, "")
	p.tells(t, api.Ask{Kind: api.APut, Name: "big", Body: make([]byte, 4096)}, 0, 503, "")
	p.tells(t, api.Ask{Kind: api.ASeal, Name: "bad"}, 0, 422, "")
	p.tells(t, api.Ask{Kind: api.ASubmit, Name: "set", Spec: "cell"}, -1, 400, "")
	for _, n := range []int{0, 1, greatest, 0} {
		p.step(t, n)
	}
	p.stands(t)
	p.proves(t)
}

// P22.2: where both the Quota and the power lack, 507 comes first; so it does where the disk is full.
func TestNoRoomAheadOfPower(t *testing.T) {
	p := made(t, within(20), 2)
	p.arm(t, 0)
	p.tells(t, api.Ask{Kind: api.APut, Name: "a"}, 0, 503, "")
	p.tells(t, api.Ask{Kind: api.APut, Name: "a", Body: make([]byte, 18)}, 0, 507, "")
	p.tells(t, api.Ask{Kind: api.APut, Name: "a", Body: make([]byte, 17)}, 0, 503, "")
	p = made(t, wide, 2)
	p.arm(t, 0)
	p.tells(t, api.Ask{Kind: api.APut, Name: "a", Body: make([]byte, 200)}, 0, 507, "")
	p.tells(t, api.Ask{Kind: api.APut, Name: "a", Body: make([]byte, 80)}, 0, 503, "")
	p.tells(t, api.Ask{Kind: api.APut, Name: "a", Body: make([]byte, 200)}, 0, 507, "")
}

// The long history is one of 64 operations.
func TestLong(t *testing.T) {
	events, err := hist.Decode(long())
	if err != api.OK || len(events) != 128 {
		t.Errorf("%d events, error %d", len(events), err)
	}
}
