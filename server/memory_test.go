package server_test

import (
	"fmt"
	"math/rand"
	"slices"
	"strings"
	"sync"
	"testing"

	"inquest/api"
	"inquest/disk"
	"inquest/server"
)

// spoil writes into all the memory that bytes have, and behind their length.
func spoil(b []byte) {
	b = b[:cap(b)]
	for i := range b {
		b[i] ^= 0x55
	}
}

// roomy answers bytes behind which there is room that is not theirs, and all of it.
func roomy(s string) (part, whole []byte) {
	whole = []byte(s + "what stands behind")
	return whole[:len(s)], whole
}

// R3: New changes nothing of the key, of the list of members, of that of disks; and the server goes on as it was when these are changed.
func TestNewKeepsItsOwn(t *testing.T) {
	for _, key := range keys() {
		l := append(named(3), api.Member{Name: "behind"})[:3]
		disks := append(blankDisks(t, 3, 100), nil)[:3]
		part, whole := roomy(key)
		wasMembers, wasDisks, wasKey := slices.Clone(l[:4]), slices.Clone(disks[:4]), string(whole)
		s, err := server.New(part, l, disks)
		must(t, err)
		if !slices.Equal(l[:4], wasMembers) || !slices.Equal(disks[:4], wasDisks) || string(whole) != wasKey {
			t.Fatal("New changes what is handed in")
		}
		w := &words{key: key, members: named(3), disks: blankDisks(t, 3, 100)}
		w.opens()
		p := &pair{s: s, disks: wasDisks[:3], w: w}
		p.asks(t, 0, "a", "PUT", "/uploads/n", "x", 200)
		spoil(whole)
		for k := range l {
			l[k], disks[k] = api.Member{Name: "other", Limits: api.Limits{Quota: -1}}, nil
		}
		for range 2 {
			for k, m := range named(3) {
				p.begins(t, m.Name)
				p.asks(t, k, m.Name, "POST", "/jobs/a/a", "", 200)
				if at, tries, done := p.pick(t, 1000); at != k || tries != 4 || !done {
					t.Fatalf("Pick: %d, %d, %t", at, tries, done)
				}
				p.asks(t, 0, m.Name, "GET", "/heads/1", "", 200)
			}
			p.asks(t, 0, "other", "GET", "/usage", "", 403)
			want, _ := w.mint("a", 5)
			if got, err := s.Mint("a", 5); got != want || err != api.OK {
				t.Fatalf("Mint: %q, error %d", got, err)
			}
			p.arm(t, 2, 3)
			p.crash(t, nil, -1)
			p.stands(t)
		}
	}
}

// R3: a long row of deeds changes nothing of the lists that New was handed.
func TestNewChangesNothing(t *testing.T) {
	r := rand.New(rand.NewSource(2415))
	for range 10 {
		l, disks, key := anyMembers(r, 4), blankDisks(t, 4, 60), []byte("key")
		wasMembers, wasDisks := slices.Clone(l), slices.Clone(disks)
		s, err := server.New(key, l, disks)
		must(t, err)
		for range 300 {
			anyCall(r, s)
		}
		if !slices.Equal(l, wasMembers) || !slices.Equal(disks, wasDisks) || string(key) != "key" {
			t.Fatal("what was handed in is another one")
		}
	}
}

// R3: Hear changes nothing of the bytes that are handed in, nor what stands behind them, and keeps none of them: also of a request that is not whole yet.
func TestHearKeepsNothing(t *testing.T) {
	r := rand.New(rand.NewSource(2416))
	p, q := made(t, named(2), 300), made(t, named(2), 300)
	for k := range 400 {
		s := anyRequest(r, p.mine("a"))
		if k%20 == 0 {
			s += anyNonsense(r, p.mine("b"))
		}
		conn := k % conns
		got := ""
		for _, piece := range cut(r, s) {
			part, whole := roomy(piece)
			was := string(whole)
			if k%2 == 0 {
				got += string(p.s.Hear(conn, part))
			} else {
				got += string(p.s.Do(api.Deed{Kind: api.DSend, Conn: conn, Bytes: part}))
			}
			if string(whole) != was {
				t.Fatalf("%q came to be %q", was, whole)
			}
			spoil(whole)
		}
		if want := q.hear(t, conn, s); got != want {
			t.Fatalf("%q: %q, not %q", s, got, want)
		}
		if p.w.hear(conn, s); k%10 == 0 {
			p.stands(t)
		}
	}
	p.stands(t)
}

// R3: what was answered stays as it is, and shares no memory with the server, nor with another answer.
func TestAnswersAreNew(t *testing.T) {
	p := made(t, named(2), 300)
	p.begins(t, "a")
	for range 3 {
		p.asks(t, 0, "a", "POST", "/jobs/b/b", "", 200)
	}
	for range 3 {
		p.pick(t, 1000)
	}
	was := p.all()
	var answers [][]byte
	var texts []string
	for _, target := range []string{"/usage", "/head", "/heads/1", "/heads/2", "/jobs/0", "/jobs/2", "/entries/0/2", "/growth/1/2", "/none", "/entries/9/9"} {
		s := strings.Repeat(ask("GET", target, p.mine("a"), ""), 3)
		one, two := p.s.Hear(1, []byte(s)), p.s.Do(api.Deed{Kind: api.DSend, Conn: 2, Bytes: []byte(s)})
		want := string(two)
		spoil(one)
		_ = append(one, "more"...)
		if string(two) != want {
			t.Fatalf("%s: %q came to be %q", target, want, two)
		}
		p.answers(t, 3, s, want)
		answers, texts = append(answers, two), append(texts, want)
	}
	for k := range 30 {
		p.asks(t, 1, "a", "PUT", fmt.Sprint("/uploads/n", k), "x", 200)
		p.asks(t, 2, "b", "PUT", fmt.Sprint("/uploads/n", k), "x", 200)
	}
	for k, b := range answers {
		if string(b) != texts[k] {
			t.Fatalf("%q came to be %q", texts[k], b)
		}
		spoil(b)
	}
	p.crash(t, nil, -1)
	p.stands(t)
	if p.all() == was {
		t.Error("nothing was done")
	}
}

// R3: Crash changes nothing of what is to be kept, and keeps none of it.
func TestCrashKeepsNothing(t *testing.T) {
	r := rand.New(rand.NewSource(2417))
	p := made(t, named(3), 200)
	for k := range 60 {
		p.arm(t, k%3, k%7)
		for _, m := range named(3) {
			p.hear(t, 0, ask("PUT", "/uploads/a", p.mine(m.Name), strings.Repeat("x", 50)))
		}
		keep := append(byChance(r, 8), true, false, true)
		was := slices.Clone(keep)
		part := keep[:len(keep)-3]
		p.w.crash(slices.Clone(part), -1)
		if k%2 == 0 {
			p.s.Crash(part, -1)
		} else {
			p.s.Do(api.Deed{Kind: api.DCrash, Keep: part, N: -1})
		}
		if !slices.Equal(keep, was) {
			t.Fatalf("%v came to be %v", was, keep)
		}
		for i := range keep {
			keep[i] = !keep[i]
		}
		p.stands(t)
	}
}

// R4: servers know nothing of one another: rows of deeds by turns, held against the words.
func TestServersShareNothing(t *testing.T) {
	r := rand.New(rand.NewSource(2418))
	var all []*pair
	var senders []*sender
	for range 5 {
		all = append(all, made(t, anyMembers(r, 1+r.Intn(4)), 150))
		senders = append(senders, &sender{r: r})
	}
	met := map[int]int{}
	for range 800 {
		k := r.Intn(len(all))
		all[k].anyRow(t, senders[k], 1, met)
	}
	for _, p := range all {
		p.stands(t)
	}
}

// R4: the same row of deeds is answered the same by another server; and by one behind it, on what the first one left.
func TestSameAnswers(t *testing.T) {
	r := rand.New(rand.NewSource(2419))
	for range 20 {
		l := anyMembers(r, 3)
		p, q := made(t, l, 150), made(t, l, 150)
		x := &sender{r: r}
		for range 150 {
			if r.Intn(4) == 0 {
				p.pick(t, 9)
				q.pick(t, 9)
				continue
			}
			conn := r.Intn(4)
			s := x.next(conn, func() string { return p.w.anyToken(r, namesOf(l)...) })
			p.answers(t, conn, s, q.hear(t, conn, s))
		}
		var left, twins []*disk.Disk
		for k := range l {
			if state(p.disks[k]) != state(q.disks[k]) {
				t.Fatalf("disk %d is another one", k)
			}
			left, twins = append(left, diskOf(t, bytesOf(t, p.disks[k]))), append(twins, diskOf(t, bytesOf(t, p.disks[k])))
		}
		next := served(t, "key", l, left, twins)
		p.crash(t, nil, -1)
		for k := range l {
			if next.s.Down(k) != p.s.Down(k) || !p.s.Down(k) && has(next.s.Tenant(k)) != has(p.s.Tenant(k)) {
				t.Fatalf("member %d of the next server is another one", k)
			}
		}
	}
}

// R4: many servers at the same time, each of its own goroutine.
func TestAtTheSameTime(t *testing.T) {
	play := func(disks []*disk.Disk) string {
		r := rand.New(rand.NewSource(2420))
		s, _ := server.New([]byte("key"), named(3), disks)
		mine, _ := s.Mint("b", 1<<30)
		all := ""
		for k := range 200 {
			all += string(s.Hear(k%3, []byte(anyRequest(r, mine))))
			at, tries, done := s.Pick(9)
			all += fmt.Sprint(at, tries, done)
		}
		return all
	}
	want := play(blankDisks(t, 3, 300))
	got := make([]string, 8)
	var all [][]*disk.Disk
	for range got {
		all = append(all, blankDisks(t, 3, 300))
	}
	var wait sync.WaitGroup
	for k, disks := range all {
		wait.Go(func() { got[k] = play(disks) })
	}
	wait.Wait()
	for k, s := range got {
		if s != want {
			t.Errorf("server %d answers something else", k)
		}
	}
}
