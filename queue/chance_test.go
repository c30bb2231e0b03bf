package queue_test

import (
	"math/rand"
	"testing"

	"inquest/api"
	"inquest/queue"
)

// refusals are all errors of a queue that New made.
var refusals = []api.Errno{api.OK, api.ErrArg, api.ErrThere, api.ErrFull, api.ErrNone}

// P19.1: all rows of up to five calls of a few jobs, held against the chapter's words.
func TestAllRows(t *testing.T) {
	all := calls(0, 1, 2, -1)
	met := map[api.Errno]int{}
	for most := 1; most <= 3; most++ {
		row := make([]call, 5)
		var fill func(at int)
		fill = func(at int) {
			if at == len(row) {
				p := made(t, most)
				for _, c := range row {
					met[p.do(t, c)]++
				}
				return
			}
			for _, c := range all {
				row[at] = c
				fill(at + 1)
			}
		}
		fill(0)
	}
	often(t, met, 1000, refusals...)
}

// P19.1: all that can come of any row of calls, of queues of each most and one job more than fits: from each row of jobs that may wait each call, held against the chapter's words.
func TestAllQueues(t *testing.T) {
	for most := 1; most <= 4; most++ {
		jobs := []int{0, 1, 2, 3, 4}[:most+1]
		var row []int
		var fill func()
		fill = func() {
			for _, c := range calls(append([]int{-1, 77}, jobs...)...) {
				p := filled(t, most, row...)
				p.do(t, c)
				p.do(t, c)
			}
			if len(row) == most {
				return
			}
			l := newLine(most)
			for _, job := range row {
				l.put(job)
			}
			for _, job := range jobs {
				if l.put(job) == api.OK {
					row = append(row, job)
					fill()
					row = row[:len(row)-1]
					l.done(job)
				}
			}
		}
		fill()
	}
}

// P19.1: long rows of calls by chance, held against the chapter's words.
func TestRowsByChance(t *testing.T) {
	r := rand.New(rand.NewSource(195))
	met, lengths := map[api.Errno]int{}, map[int]int{}
	for range 1000 {
		p := made(t, 1+r.Intn(mostJobs))
		kinds := 1 + r.Intn(14)
		hurry := 1 + r.Intn(4) // how many are put for one that is done
		for range 200 {
			c := call{r.Intn(1+hurry) == 0, r.Intn(kinds) - r.Intn(20)/19}
			if r.Intn(20) == 0 {
				c.job = anyNumber(r)
			}
			met[p.do(t, c)]++
			lengths[p.q.Len()]++
		}
	}
	often(t, met, 1000, refusals...)
	often(t, lengths, 1000, 0, 1, 2, 3, 4, 5, 6, 7, 8)
}

// P19.1: a queue that is used very often is as it was when it was new.
func TestLongUse(t *testing.T) {
	for most := 1; most <= mostJobs; most++ {
		p := made(t, most)
		for job := range 3000 {
			if p.put(t, job) != api.OK {
				first, _ := p.q.First()
				p.ends(t, first, api.OK)
				p.puts(t, job, api.OK)
			}
		}
		for p.q.Len() > 0 {
			first, _ := p.q.First()
			p.ends(t, first, api.OK)
		}
		p.puts(t, 0, api.OK)
		p.puts(t, 0, api.ErrThere)
	}
}

// R1: no panic comes out of the package, whatever is handed in, of queues that New made, refused, or never saw.
func TestNoPanic(t *testing.T) {
	r := rand.New(rand.NewSource(196))
	met := map[api.Errno]int{}
	for range 5000 {
		most := anyNumber(r)
		q, e := queue.New(most)
		if is := most >= 1 && most <= mostJobs; is != (e == api.OK) || is != (q != nil) {
			t.Fatalf("New(%d): %v, error %d", most, q, e)
		}
		met[e]++
		if q == nil && r.Intn(2) == 0 {
			q = new(queue.Queue)
		}
		for range 30 {
			met[q.Put(anyNumber(r))]++
			met[q.Done(anyNumber(r))]++
			first, ok := q.First()
			l := q.Waiting()
			if n := q.Len(); n != len(l) || ok != (n > 0) || ok && first != l[0] {
				t.Fatalf("First: %d, %v; Waiting: %v; Len: %d", first, ok, l, n)
			}
		}
		turned(t, bits(r.Intn(9), r.Intn(512)), anyNumber(r))
	}
	often(t, met, 1000, append(refusals, api.ErrNil)...)
}
