package server_test

import (
	"fmt"
	"strings"
	"testing"

	"inquest/api"
	"inquest/code"
	"inquest/disk"
	"inquest/hist"
	"inquest/server"
	"inquest/store"
	"inquest/tenant"
	"inquest/wire"
)

// pair is a server and what it has to be, by the words.
type pair struct {
	s     *server.Server
	disks []*disk.Disk
	w     *words
	deeds bool // all is done by Do
}

// wide are limits that hinder nothing.
var wide = api.Limits{Quota: 1 << 30, Queue: 8, Fuel: 10000, Budget: 1 << 30}

// must asks for no error.
func must(t *testing.T, err api.Errno) {
	t.Helper()
	if err != api.OK {
		t.Fatalf("error %d", err)
	}
}

// blankDisk answers a new disk.
func blankDisk(t *testing.T, sectors int) *disk.Disk {
	t.Helper()
	d, err := disk.New(sectors)
	must(t, err)
	return d
}

// blankDisks answers n new disks.
func blankDisks(t *testing.T, n, sectors int) []*disk.Disk {
	t.Helper()
	var l []*disk.Disk
	for range n {
		l = append(l, blankDisk(t, sectors))
	}
	return l
}

// members answers members of these names, with limits that hinder nothing.
func members(names ...string) []api.Member {
	var l []api.Member
	for _, name := range names {
		l = append(l, api.Member{Name: name, Limits: wide})
	}
	return l
}

// named answers n members.
func named(n int) []api.Member {
	return members("a", "b", "c", "d", "e", "f", "g", "h")[:n]
}

// served answers a server of disks, and beside it the words of other disks that hold the same.
func served(t *testing.T, key string, l []api.Member, disks, twins []*disk.Disk) *pair {
	t.Helper()
	s, err := server.New([]byte(key), l, disks)
	if s == nil || err != api.OK {
		t.Fatalf("New: a server %t, error %d", s != nil, err)
	}
	w := &words{key: key, members: l, disks: twins}
	w.opens()
	p := &pair{s: s, disks: disks, w: w}
	p.stands(t)
	return p
}

// made answers a server whose members have nothing, on disks of so many sectors, beside the words of it.
func made(t *testing.T, l []api.Member, sectors int) *pair {
	t.Helper()
	return served(t, "key", l, blankDisks(t, len(l), sectors), blankDisks(t, len(l), sectors))
}

// hear holds Hear against the words, and answers what is told.
func (p *pair) hear(t *testing.T, conn int, s string) string {
	t.Helper()
	var got []byte
	if p.deeds {
		got = p.s.Do(api.Deed{Kind: api.DSend, Conn: conn, Bytes: []byte(s), Tenant: 1, N: 7, Keep: []bool{true}})
	} else {
		got = p.s.Hear(conn, []byte(s))
	}
	if want := p.w.hear(conn, s); string(got) != want {
		t.Fatalf("Hear(%d, %.300q): %.300q, not %.300q", conn, s, got, want)
	}
	return string(got)
}

// answers asks for what is answered, beside the words.
func (p *pair) answers(t *testing.T, conn int, s, want string) {
	t.Helper()
	if got := p.hear(t, conn, s); got != want {
		t.Fatalf("Hear(%d, %.300q): %.300q, not %.300q", conn, s, got, want)
	}
}

// tells asks for one answer, beside the words.
func (p *pair) tells(t *testing.T, conn int, s string, code int, body string) {
	t.Helper()
	p.answers(t, conn, s, answered(code, body))
}

// mine answers a token of a name that lasts.
func (p *pair) mine(name string) string { return p.w.token(name, mostTime) }

// asks lets a member ask something, and asks for the answer's status. It answers the body.
func (p *pair) asks(t *testing.T, conn int, name, method, target, body string, code int) string {
	t.Helper()
	b := p.hear(t, conn, ask(method, target, p.mine(name), body))
	got, said, n, err := wire.ReadAnswer([]byte(b))
	if err != api.OK || n != len(b) || got != code {
		t.Fatalf("%s: %s %s: %q, not %d", name, method, target, b, code)
	}
	return string(said)
}

func (p *pair) shut(t *testing.T, conn int) {
	t.Helper()
	p.w.shut(conn)
	if p.deeds {
		p.none(t, api.Deed{Kind: api.DShut, Conn: conn, Tenant: 1, N: 1, Bytes: []byte("GET"), Keep: []bool{true}})
		return
	}
	p.s.Shut(conn)
}

func (p *pair) pass(t *testing.T, n int) {
	t.Helper()
	p.w.pass(n)
	if p.deeds {
		p.none(t, api.Deed{Kind: api.DPass, N: n, Conn: 1, Tenant: 2, Bytes: []byte("GET"), Keep: []bool{true}})
	} else {
		p.s.Pass(n)
	}
	if got := p.s.Now(); got != p.w.now {
		t.Fatalf("Pass(%d): %d, not %d", n, got, p.w.now)
	}
}

// pick holds Pick against the words, and answers what it tells.
func (p *pair) pick(t *testing.T, n int) (int, int, bool) {
	t.Helper()
	at, tries, done := p.w.pick(n)
	if p.deeds {
		p.none(t, api.Deed{Kind: api.DPick, N: n, Conn: 1, Tenant: 2, Bytes: []byte("GET"), Keep: []bool{true}})
		return at, tries, done
	}
	if k, m, ok := p.s.Pick(n); k != at || m != tries || ok != done {
		t.Fatalf("Pick(%d): %d, %d, %t, not %d, %d, %t", n, k, m, ok, at, tries, done)
	}
	return at, tries, done
}

func (p *pair) arm(t *testing.T, i, n int) {
	t.Helper()
	p.w.arm(i, n)
	if p.deeds {
		p.none(t, api.Deed{Kind: api.DArm, Tenant: i, N: n, Conn: 1, Bytes: []byte("GET"), Keep: []bool{true}})
		return
	}
	p.s.Arm(i, n)
}

func (p *pair) crash(t *testing.T, keep []bool, n int) {
	t.Helper()
	p.w.crash(keep, n)
	if p.deeds {
		p.none(t, api.Deed{Kind: api.DCrash, Keep: keep, N: n, Conn: 1, Tenant: 1, Bytes: []byte("GET")})
		return
	}
	p.s.Crash(keep, n)
}

// none does a deed that is answered nothing.
func (p *pair) none(t *testing.T, x api.Deed) {
	t.Helper()
	if got := p.s.Do(x); len(got) > 0 {
		t.Fatalf("Do of %+v: %q", x, got)
	}
}

// places are those of n members, and others.
func places(n int) []int {
	l := []int{least, -2, -1, n, n + 1, 100, 1 << 32, greatest}
	for k := range n {
		l = append(l, k)
	}
	return l
}

// stands holds the whole server against the words: the time, who is down, what tenants have, how the disks are.
func (p *pair) stands(t *testing.T) {
	t.Helper()
	if p.s.Now() != p.w.now {
		t.Fatalf("Now: %d, not %d", p.s.Now(), p.w.now)
	}
	for _, k := range places(len(p.w.members)) {
		is := k >= 0 && k < len(p.w.members)
		down := is && p.w.tenants[k] == nil
		x := p.s.Tenant(k)
		if p.s.Down(k) != down || (x == nil) != (down || !is) {
			t.Fatalf("member %d: down %t, a tenant %t, not %t", k, p.s.Down(k), x != nil, down)
		}
		if x != nil && has(x) != has(p.w.tenants[k]) {
			t.Fatalf("member %d has %s, not %s", k, has(x), has(p.w.tenants[k]))
		}
	}
	for k, d := range p.disks {
		if got, want := state(d), state(p.w.disks[k]); got != want {
			t.Fatalf("disk %d: %q, not %q", k, got, want)
		}
	}
}

// has answers what a tenant has, in a text: its store, its ledger, the head of all, whether it wants a turn.
func has(x *tenant.Tenant) string {
	head := x.Do(api.Ask{Kind: api.ACurrent}, 0)
	return fmt.Sprintf("%q %x %q %t", held(x.Store()), x.Ledger().Texts(), head.Body, x.Wants())
}

// held answers what a store has.
func held(s *store.Store) map[string]string {
	all := map[string]string{}
	for _, p := range s.All() {
		all[p.Key] = string(p.Value)
	}
	return all
}

// state answers how a disk is, in a text: whether it is off, how many writes are open, what its sectors have.
func state(d *disk.Disk) string {
	var s strings.Builder
	fmt.Fprint(&s, d.Off(), " ", d.Open(), " ")
	for at := range d.Sectors() {
		b, _ := d.Read(at) // none, while it is off
		s.Write(b)
	}
	return s.String()
}

// bytesOf answers a disk's bytes.
func bytesOf(t *testing.T, d *disk.Disk) string {
	t.Helper()
	var s strings.Builder
	for at := range d.Sectors() {
		b, err := d.Read(at)
		must(t, err)
		s.Write(b)
	}
	return s.String()
}

// diskOf answers a disk with these bytes, all of them fast.
func diskOf(t *testing.T, s string) *disk.Disk {
	t.Helper()
	d := blankDisk(t, len(s)/64)
	for at := range d.Sectors() {
		must(t, d.Write(at, []byte(s[at*64:at*64+64])))
	}
	must(t, d.Sync())
	return d
}

// call and answer answer events.
func call(client, op int, val int64) api.Event {
	return api.Event{Client: client, Call: true, Op: op, Val: val}
}
func answer(client int, val int64) api.Event { return api.Event{Client: client, Val: val} }

// text answers a history's text.
func text(l ...api.Event) string {
	b, err := hist.Encode(l)
	if err != api.OK {
		panic(err)
	}
	return string(b)
}

// spec answers code's text.
func spec(l ...api.Ins) string {
	b, err := code.Encode(l)
	if err != api.OK {
		panic(err)
	}
	return string(b)
}

// specs answers specifications by their names.
func specs() map[string]string {
	return map[string]string{
		// A cell: 0 gets it, another kind sets it.
		"cell": spec(api.Ins{Op: api.IKind}, api.Ins{Op: api.IUnless, N: 6}, api.Ins{Op: api.IArg}, api.Ins{Op: api.IStore}, api.Ins{Op: api.IPush}, api.Ins{Op: api.IAnswer}, api.Ins{Op: api.ILoad}, api.Ins{Op: api.IAnswer}),
		"echo": spec(api.Ins{Op: api.IArg}, api.Ins{Op: api.IAnswer}),
		"none": spec(api.Ins{Op: api.IRefuse}),
	}
}

// histories answers some by their names.
func histories() map[string]string {
	crowd := []api.Event{}
	for k := range 5 {
		crowd = append(crowd, call(k, 0, int64(k)))
	}
	for k := range 5 {
		crowd = append(crowd, answer(k, int64(k+k/4)))
	}
	return map[string]string{
		"empty": text(),
		"set":   text(call(0, 1, 5), answer(0, 0)),
		"turn":  text(call(0, 1, 5), call(1, 0, 0), answer(1, 0), answer(0, 0)),
		"late":  text(call(0, 1, 5), answer(0, 0), call(1, 0, 0), answer(1, 0)),
		"crowd": text(crowd...),
	}
}

// knows lets a member have a history and a specification.
func (p *pair) knows(t *testing.T, name, history, spec string) {
	t.Helper()
	p.asks(t, 0, name, "PUT", "/uploads/"+history, histories()[history], 200)
	p.asks(t, 0, name, "POST", "/histories/"+history, "", 200)
	p.asks(t, 0, name, "PUT", "/specs/"+spec, specs()[spec], 200)
}

// often asks that each of these was met so many times at least.
func often[K comparable](t *testing.T, met map[K]int, times int, keys ...K) {
	t.Helper()
	for _, k := range keys {
		if met[k] < times {
			t.Errorf("%v: only %d times", k, met[k])
		}
	}
}
