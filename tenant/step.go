package tenant

import (
	"inquest/api"
	"inquest/code"
	"inquest/entry"
	"inquest/lin"
	"inquest/sha"
)

// Step goes on with the first job that waits.
func (t *Tenant) Step(n int) (int, bool) {
	if !t.Wants() {
		return 0, false
	}
	number, _ := t.queue.First()
	value, _ := t.store.Get(numbered(waitingFront, number))
	j, _ := readJob(value)
	history, _ := t.store.Get(historyFront + j.history)
	spec, _ := t.store.Get(specFront + j.spec)
	if t.task == nil {
		t.task = t.search(history, spec)
	}
	before := t.task.Tries()
	over := t.task.Go(n)
	tries := t.task.Tries() - before
	if !over {
		return tries, false
	}
	// The search stays over where the commit errs: there is nothing left to be tried but the commit.
	verdict, _ := t.task.Verdict()
	e := api.Entry{Job: number, Time: j.time, History: sha.Sum(history), Spec: sha.Sum(spec), Verdict: verdict}
	return tries, t.finish(e)
}

// search answers the search of a job, with no try done yet.
func (t *Tenant) search(history, spec []byte) *lin.Task {
	ops, _ := readOps(history)
	l, _ := code.Decode(spec)
	task, _ := lin.New(l, t.limits.Fuel, t.limits.Budget, ops)
	return task
}

// finish puts the first job's entry there in the stead of the job. It tells whether that is committed.
func (t *Tenant) finish(e api.Entry) bool {
	b, err := entry.Encode(e)
	if err != api.OK || t.commit(gone(numbered(waitingFront, e.Job)), set(numbered(doneFront, e.Job), b)) != toldDone {
		return false
	}
	t.ledger.Add(e)
	t.queue.Done(e.Job)
	t.task = nil
	return true
}
