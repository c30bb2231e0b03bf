package queue_test

import (
	"math/rand"
	"slices"
	"sync"
	"testing"

	"inquest/api"
	"inquest/queue"
)

// spoil writes into all of a list's memory, and behind its length.
func spoil(l []int) {
	for i := range l[:cap(l)] {
		l[:cap(l)][i] = -77
	}
	_ = append(l, -78, -79)
}

// R3: what Waiting answered may be written into, and appended to: the queue stays as it was.
func TestWaitingIsNew(t *testing.T) {
	for n := range mostJobs + 1 {
		for most := max(n, 1); most <= mostJobs; most++ {
			p := filled(t, most, []int{4, 0, 6, 2, 7, 1, 5, 3}[:n]...)
			first, second := p.q.Waiting(), p.q.Waiting()
			want := slices.Clone(second)
			spoil(first)
			if !slices.Equal(second, want) {
				t.Fatalf("%v came to be %v", want, second)
			}
			p.stands(t)
			spoil(second)
			p.put(t, 9)
			spoil(p.q.Waiting())
			for _, job := range p.l.waiting() {
				p.ends(t, job, api.OK)
				spoil(p.q.Waiting())
				p.stands(t)
			}
		}
	}
}

// R3: what happens to the queue afterwards does not change what Waiting answered.
func TestWaitingStays(t *testing.T) {
	r := rand.New(rand.NewSource(197))
	for range 200 {
		p := made(t, 1+r.Intn(mostJobs))
		var told, want [][]int
		for range 60 {
			p.do(t, call{r.Intn(3) == 0, r.Intn(10)})
			told, want = append(told, p.q.Waiting()), append(want, p.l.waiting())
		}
		for k := range told {
			if !slices.Equal(told[k], want[k]) {
				t.Fatalf("%v came to be %v", want[k], told[k])
			}
		}
	}
}

// R4: two queues know nothing of one another, nor do many.
func TestQueuesShareNothing(t *testing.T) {
	r := rand.New(rand.NewSource(198))
	var all []pair
	for k := range 3 * mostJobs {
		all = append(all, made(t, 1+k%mostJobs))
	}
	for range 5000 {
		all[r.Intn(len(all))].do(t, call{r.Intn(3) == 0, r.Intn(10)})
		for _, p := range all {
			p.stands(t)
		}
	}
}

// R4: the same two jobs in two queues, in other orders.
func TestTwoQueues(t *testing.T) {
	a, b := filled(t, 2, 1, 2), filled(t, 2, 2, 1)
	a.ends(t, 1, api.OK)
	b.stands(t)
	b.ends(t, 1, api.OK)
	a.puts(t, 1, api.OK)
	b.stands(t)
	holds(t, a.q, []int{2, 1})
	holds(t, b.q, []int{2})
}

// R4: what is asked changes nothing: First, Waiting and Len answer the same, however often they are asked.
func TestAskingChangesNothing(t *testing.T) {
	p := filled(t, 4, 3, 0, 8)
	for range 50 {
		p.stands(t)
	}
	p.puts(t, 5, api.OK)
	for range 50 {
		p.stands(t)
	}
}

// R4: many queues at the same time, each of its own goroutine.
func TestAtTheSameTime(t *testing.T) {
	wrong := make([][]int, 8)
	var wait sync.WaitGroup
	for k := range wrong {
		wait.Go(func() {
			q, _ := queue.New(3)
			l := newLine(3)
			for n := range 3000 {
				job := (n*n + k) % 7
				same := q.Put(job) == l.put(job)
				if n%3 == 0 {
					same = q.Done(job-k%2) == l.done(job-k%2) && same
				}
				if !same || !slices.Equal(q.Waiting(), l.waiting()) {
					wrong[k] = append(wrong[k], n)
				}
			}
		})
	}
	wait.Wait()
	for k, l := range wrong {
		if l != nil {
			t.Errorf("queue %d: %v", k, l)
		}
	}
}
