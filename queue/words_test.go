package queue_test

import (
	"math"
	"math/rand"
	"slices"
	"testing"

	"inquest/api"
	"inquest/queue"
)

// What the chapter says of a queue and of turns, written anew, for the tests to hold the package against.

const (
	mostJobs = 8
	least    = math.MinInt
	greatest = math.MaxInt
)

// line is a queue by the chapter's words: of each job that waits, when it came.
type line struct {
	most  int
	clock int
	came  map[int]int
}

// newLine answers a line in which nothing waits.
func newLine(most int) *line { return &line{most: most, came: map[int]int{}} }

// put answers what Put has to say.
func (l *line) put(job int) api.Errno {
	if job < 0 {
		return api.ErrArg
	}
	if _, waits := l.came[job]; waits {
		return api.ErrThere
	}
	if len(l.came) >= l.most {
		return api.ErrFull
	}
	l.clock++
	l.came[job] = l.clock
	return api.OK
}

// done answers what Done has to say.
func (l *line) done(job int) api.Errno {
	if _, waits := l.came[job]; !waits {
		return api.ErrNone
	}
	delete(l.came, job)
	return api.OK
}

// waiting answers who waits, the one that came first first.
func (l *line) waiting() []int {
	jobs := []int{}
	for job := range l.came {
		jobs = append(jobs, job)
	}
	slices.SortFunc(jobs, func(a, b int) int { return l.came[a] - l.came[b] })
	return jobs
}

// pair is a queue and what it has to be.
type pair struct {
	q *queue.Queue
	l *line
}

// made answers a new queue, beside the words for it.
func made(t *testing.T, most int) pair {
	t.Helper()
	q, e := queue.New(most)
	if e != api.OK || q == nil {
		t.Fatalf("New(%d): %v, error %d", most, q, e)
	}
	p := pair{q, newLine(most)}
	p.stands(t)
	return p
}

// filled answers a new queue in which jobs wait.
func filled(t *testing.T, most int, jobs ...int) pair {
	t.Helper()
	p := made(t, most)
	for _, job := range jobs {
		p.puts(t, job, api.OK)
	}
	return p
}

// stands holds all that a queue tells against the words.
func (p pair) stands(t *testing.T) {
	t.Helper()
	holds(t, p.q, p.l.waiting())
}

// holds asks that a queue tells that these wait, and no others.
func holds(t *testing.T, q *queue.Queue, want []int) {
	t.Helper()
	if got := q.Waiting(); !slices.Equal(got, want) {
		t.Fatalf("Waiting: %v, not %v", got, want)
	}
	if got := q.Len(); got != len(want) {
		t.Fatalf("%v wait; Len: %d", want, got)
	}
	first := 0
	if len(want) > 0 {
		first = want[0]
	}
	if got, ok := q.First(); got != first || ok != (len(want) > 0) {
		t.Fatalf("%v wait; First: %d, %v", want, got, ok)
	}
}

// put puts a job, and holds what comes of it against the words.
func (p pair) put(t *testing.T, job int) api.Errno {
	t.Helper()
	ahead, want := p.l.waiting(), p.l.put(job)
	e := p.q.Put(job)
	if e != want {
		t.Fatalf("%v wait, at most %d; Put(%d): error %d, not %d", ahead, p.l.most, job, e, want)
	}
	p.stands(t)
	return e
}

// done does a job, and holds what comes of it against the words.
func (p pair) done(t *testing.T, job int) api.Errno {
	t.Helper()
	ahead, want := p.l.waiting(), p.l.done(job)
	e := p.q.Done(job)
	if e != want {
		t.Fatalf("%v wait, at most %d; Done(%d): error %d, not %d", ahead, p.l.most, job, e, want)
	}
	p.stands(t)
	return e
}

// puts and ends ask for an answer of Put and of Done.
func (p pair) puts(t *testing.T, job int, want api.Errno) {
	t.Helper()
	if e := p.put(t, job); e != want {
		t.Fatalf("Put(%d): error %d, not %d", job, e, want)
	}
}

func (p pair) ends(t *testing.T, job int, want api.Errno) {
	t.Helper()
	if e := p.done(t, job); e != want {
		t.Fatalf("Done(%d): error %d, not %d", job, e, want)
	}
}

// call is a Put or a Done.
type call struct {
	end bool
	job int
}

// do makes a call.
func (p pair) do(t *testing.T, c call) api.Errno {
	t.Helper()
	if c.end {
		return p.done(t, c.job)
	}
	return p.put(t, c.job)
}

// calls answers both calls of each of these jobs.
func calls(jobs ...int) []call {
	var l []call
	for _, job := range jobs {
		l = append(l, call{false, job}, call{true, job})
	}
	return l
}

// turn answers what Turn has to say, by the chapter's words: the places are laid in the order in which they come behind last.
func turn(wants []bool, last int) (int, bool) {
	var row []int
	for at := range wants {
		row = append(row, at)
	}
	if last >= 0 && last < len(wants) {
		row = append(slices.Clone(row[last+1:]), row[:last+1]...)
	}
	for _, at := range row {
		if wants[at] {
			return at, true
		}
	}
	return 0, false
}

// turned holds Turn against the chapter's words, and answers what it says.
func turned(t *testing.T, wants []bool, last int) (int, bool) {
	t.Helper()
	at, ok := queue.Turn(wants, last)
	if want, is := turn(wants, last); at != want || ok != is {
		t.Fatalf("Turn(%v, %d): %d, %v, not %d, %v", wants, last, at, ok, want, is)
	}
	return at, ok
}

// turns asks for an answer of Turn.
func turns(t *testing.T, wants []bool, last, want int) {
	t.Helper()
	if at, ok := turned(t, wants, last); at != want || !ok {
		t.Errorf("Turn(%v, %d): %d, %v, not %d", wants, last, at, ok, want)
	}
}

// noTurn asks that nobody has one.
func noTurn(t *testing.T, wants []bool, last int) {
	t.Helper()
	if at, ok := turned(t, wants, last); at != 0 || ok {
		t.Errorf("Turn(%v, %d): %d, %v", wants, last, at, ok)
	}
}

// bits answers what n places want by the bits of a number.
func bits(n, b int) []bool {
	l := make([]bool, n)
	for at := range l {
		l[at] = b>>at&1 == 1
	}
	return l
}

// lasts answers all places of n, and numbers that are none.
func lasts(n int) []int {
	l := []int{least, least + 1, -1 << 32, -n - 1, -n, -2, -1}
	for at := range n {
		l = append(l, at)
	}
	return append(l, n, n+1, 2*n, 2*n+1, 1<<32, 1<<62, greatest-n, greatest-1, greatest)
}

// edges answers numbers at which something may change.
func edges() []int {
	return []int{least, least + 1, -1 << 32, -2, -1, 0, 1, 7, 8, 9, 1 << 31, 1 << 32, greatest - 1, greatest}
}

// anyNumber answers a number that is often at an edge, or small.
func anyNumber(r *rand.Rand) int {
	if l := edges(); r.Intn(3) == 0 {
		return l[r.Intn(len(l))]
	}
	return r.Intn(13) - 2
}

// often asks that things were met so often: else a test by chance says little.
func often[T comparable](t *testing.T, met map[T]int, least int, all ...T) {
	t.Helper()
	for _, x := range all {
		if met[x] < least {
			t.Errorf("%v was met %d times", x, met[x])
		}
	}
}
