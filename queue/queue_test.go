package queue_test

import (
	"testing"

	"inquest/api"
	"inquest/queue"
)

// P19.1, P19.2: the chapter's examples.
func TestExamples(t *testing.T) {
	p := filled(t, 2, 3, 1)
	if job, ok := p.q.First(); job != 3 || !ok {
		t.Errorf("First: %d, %v", job, ok)
	}
	p.puts(t, 3, api.ErrThere)
	p.ends(t, 3, api.OK)
	if job, ok := p.q.First(); job != 1 || !ok {
		t.Errorf("First: %d, %v", job, ok)
	}
	turns(t, []bool{true, false, true}, 0, 2)
	turns(t, []bool{true, false, true}, 2, 0)
}

// P19.1: New takes 1 to 8 and nothing else.
func TestNew(t *testing.T) {
	for most := 1; most <= mostJobs; most++ {
		p := made(t, most)
		for job := range most {
			p.puts(t, job, api.OK)
		}
		p.puts(t, most, api.ErrFull)
	}
	for _, most := range []int{0, 9, -1, 10, -8, 64, 1 << 32, 1<<32 + 1, -1 << 32, least, least + 1, greatest - 1, greatest} {
		if q, e := queue.New(most); q != nil || e != api.ErrArg {
			t.Errorf("New(%d): %v, error %d", most, q, e)
		}
	}
}

// P19.1: jobs below 0 are refused, and no others.
func TestPutJobs(t *testing.T) {
	for most := 1; most <= mostJobs; most++ {
		for _, job := range []int{-1, -2, -8, -1 << 32, least, least + 1} {
			made(t, most).puts(t, job, api.ErrArg)
		}
		for _, job := range []int{0, 1, 63, 64, 65, 1 << 31, 1 << 32, greatest - 1, greatest} {
			p := filled(t, most, job)
			p.puts(t, job, api.ErrThere)
			p.ends(t, job, api.OK)
			p.ends(t, job, api.ErrNone)
		}
	}
}

// P19.1: of jobs that are as far from one another as can be, each waits for itself.
func TestFarJobs(t *testing.T) {
	p := filled(t, mostJobs, greatest, 0, 1<<62, 1<<32, 1, greatest-1, 1<<31, 1<<63-1<<32)
	for _, job := range []int{1 << 62, 1<<63 - 1<<32, 0, greatest, 1, 1 << 31, greatest - 1, 1 << 32} {
		p.puts(t, job, api.ErrThere)
		p.ends(t, job, api.OK)
		p.ends(t, job, api.ErrNone)
	}
	holds(t, p.q, nil)
}

// P19.1: one that waits is not put again, wherever it stands.
func TestPutThere(t *testing.T) {
	for n := 1; n <= mostJobs; n++ {
		for most := n; most <= mostJobs; most++ {
			p := filled(t, most, []int{5, 0, 7, 3, 2, 9, 1, 8}[:n]...)
			for _, job := range p.l.waiting() {
				p.puts(t, job, api.ErrThere)
			}
		}
	}
}

// P19.1: one that waited and is done may be put again, and waits behind all others then.
func TestPutAgain(t *testing.T) {
	for _, job := range []int{5, 0, 7} {
		p := filled(t, 3, 5, 0, 7)
		p.ends(t, job, api.OK)
		p.puts(t, job, api.OK)
		if l := p.q.Waiting(); len(l) != 3 || l[2] != job {
			t.Errorf("%d again: %v", job, l)
		}
		p.puts(t, job, api.ErrThere)
	}
	p := made(t, 1)
	for range 100 {
		p.puts(t, 4, api.OK)
		p.puts(t, 4, api.ErrThere)
		p.ends(t, 4, api.OK)
		p.ends(t, 4, api.ErrNone)
	}
}

// P19.1: one more than most is refused, till one is done; then there is room for one.
func TestPutFull(t *testing.T) {
	for most := 1; most <= mostJobs; most++ {
		for end := range most {
			p := made(t, most)
			for job := range most {
				p.puts(t, 10*job, api.OK)
			}
			p.puts(t, 99, api.ErrFull)
			p.puts(t, greatest, api.ErrFull)
			p.ends(t, 10*end, api.OK)
			p.puts(t, 99, api.OK)
			p.puts(t, 10*end, api.ErrFull)
		}
	}
}

// P19.1, R2: of two errors of Put the one that the chapter names first.
func TestPutErrors(t *testing.T) {
	for most := 1; most <= mostJobs; most++ {
		p := made(t, most)
		for job := range most {
			p.puts(t, job, api.OK)
		}
		for _, job := range []int{-1, -9, least} {
			p.puts(t, job, api.ErrArg)
		}
		for job := range most {
			p.puts(t, job, api.ErrThere)
		}
		p.puts(t, most, api.ErrFull)
	}
}

// P19.1, R2: a Put and a Done that are refused change nothing, however often they come.
func TestRefused(t *testing.T) {
	p := filled(t, 3, 6, 4, 5)
	for range 20 {
		for _, job := range []int{-1, least, 6, 4, 5, 0, 7, greatest} {
			if p.put(t, job) == api.OK {
				t.Fatal(job)
			}
			holds(t, p.q, []int{6, 4, 5})
		}
		for _, job := range []int{-1, least, 0, 3, 7, greatest} {
			p.ends(t, job, api.ErrNone)
			holds(t, p.q, []int{6, 4, 5})
		}
	}
	p.ends(t, 4, api.OK)
	holds(t, p.q, []int{6, 5})
}

// P19.1: First says of a 0 that it waits, and of nothing that nothing does.
func TestFirst(t *testing.T) {
	p := made(t, 3)
	asks := func(want int, is bool) {
		t.Helper()
		for range 2 {
			if job, ok := p.q.First(); job != want || ok != is {
				t.Errorf("First: %d, %v, not %d, %v", job, ok, want, is)
			}
		}
	}
	asks(0, false)
	p.puts(t, 0, api.OK)
	asks(0, true)
	p.puts(t, 8, api.OK)
	asks(0, true)
	p.puts(t, 2, api.OK)
	asks(0, true)
	p.ends(t, 8, api.OK)
	asks(0, true)
	p.ends(t, 0, api.OK)
	asks(2, true)
	p.puts(t, 0, api.OK)
	asks(2, true)
	p.ends(t, 2, api.OK)
	asks(0, true)
	p.ends(t, 0, api.OK)
	asks(0, false)
}

// P19.1: Done of one that does not wait.
func TestDoneNone(t *testing.T) {
	for most := 1; most <= mostJobs; most++ {
		p := made(t, most)
		for _, job := range edges() {
			p.ends(t, job, api.ErrNone)
		}
		for job := range most {
			p.puts(t, 20+job, api.OK)
		}
		for _, job := range edges() {
			p.ends(t, job, api.ErrNone)
		}
		for job := range most {
			p.ends(t, 20+job, api.OK)
			p.ends(t, 20+job, api.ErrNone)
		}
		for _, job := range edges() {
			p.ends(t, job, api.ErrNone)
		}
	}
}

// P19.1: Done of one at each place: the others stay in their order; all orders of being done, of few.
func TestDoneAt(t *testing.T) {
	jobs := []int{4, 0, 6, 2, 7, 1, 5, 3}
	for n := 1; n <= mostJobs; n++ {
		for at := range n {
			p := filled(t, mostJobs, jobs[:n]...)
			p.ends(t, jobs[at], api.OK)
			var left []int
			left = append(append(left, jobs[:at]...), jobs[at+1:n]...)
			holds(t, p.q, left)
		}
	}
	for n := 1; n <= 6; n++ {
		orders(jobs[:n], func(l []int) {
			p := filled(t, n, jobs[:n]...)
			for _, job := range l {
				p.ends(t, job, api.OK)
			}
			holds(t, p.q, nil)
			for _, job := range l {
				p.puts(t, job, api.OK)
			}
			holds(t, p.q, l)
		})
	}
}

// orders goes through all orders of numbers.
func orders(l []int, f func(l []int)) {
	var row []int
	var fill func(left []int)
	fill = func(left []int) {
		if len(left) == 0 {
			f(row)
		}
		for at, x := range left {
			row = append(row, x)
			var rest []int
			fill(append(append(rest, left[:at]...), left[at+1:]...))
			row = row[:len(row)-1]
		}
	}
	fill(l)
}

// P19.1, R1: of a queue that New did not make nothing waits, and nothing can.
func TestNotMade(t *testing.T) {
	type holder struct{ queue.Queue }
	var none *queue.Queue
	var zero queue.Queue
	for _, q := range []*queue.Queue{none, &zero, {}, new(queue.Queue), &new(holder).Queue, &make([]queue.Queue, 2)[1]} {
		for range 2 {
			for _, job := range edges() {
				if e := q.Put(job); e != api.ErrNil {
					t.Errorf("Put(%d): error %d", job, e)
				}
				if e := q.Done(job); e != api.ErrNil {
					t.Errorf("Done(%d): error %d", job, e)
				}
				holds(t, q, nil)
			}
		}
	}
	refused, _ := queue.New(0)
	if e := refused.Put(1); e != api.ErrNil {
		t.Errorf("Put: error %d", e)
	}
	holds(t, refused, nil)
}
