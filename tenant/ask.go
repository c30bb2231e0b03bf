package tenant

import (
	"errors"
	"slices"

	"inquest/api"
	"inquest/code"
	"inquest/hist"
	"inquest/text"
)

// The statuses that are told.
const (
	toldDone    = 200
	toldWrong   = 400
	toldNone    = 404
	toldThere   = 409
	toldBig     = 413
	toldNoForm  = 422
	toldMany    = 429
	toldNoPower = 503
	toldNoRoom  = 507
)

// Do answers what is asked.
func (t *Tenant) Do(a api.Ask, now int) api.Told {
	if !t.isMade() {
		return refused(toldNoPower)
	}
	switch a.Kind {
	case api.APut:
		return t.put(a.Name, a.Body)
	case api.ASeal:
		return t.seal(a.Name)
	case api.ASpec:
		return t.specify(a.Name, a.Body)
	case api.ASubmit:
		return t.submit(job{history: a.Name, spec: a.Spec, time: now})
	case api.AJob:
		return t.tellJob(a.A)
	case api.ACurrent:
		return t.tellHead(t.ledger.Size())
	case api.AHead:
		return t.tellHead(a.A)
	case api.AEntry:
		return t.tellEntry(a.A, a.B)
	case api.AGrowth:
		return t.tellGrowth(a.A, a.B)
	case api.AUsage:
		return t.tellUsage()
	}
	return refused(toldWrong)
}

// refused tells a status alone.
func refused(status int) api.Told { return api.Told{Code: status} }

// said tells that it is done, and with what.
func said(body string) api.Told { return api.Told{Code: toldDone, Body: []byte(body)} }

// counted tells a number, if the status is that of what is done.
func counted(n, status int) api.Told {
	if status != toldDone {
		return refused(status)
	}
	return said(text.Dec(n))
}

// set answers the change that gives a key a value.
func set(key string, value []byte) api.Change { return api.Change{Key: key, Value: value} }

// gone answers the change that takes a key's value away.
func gone(key string) api.Change { return api.Change{Key: key, Del: true} }

// commit does all changes, or none. It answers the status that says so.
func (t *Tenant) commit(changes ...api.Change) int {
	err := t.store.Commit(changes)
	switch {
	case err == api.OK:
		return toldDone
	case errors.Is(err, api.ErrQuota), errors.Is(err, api.ErrFull):
		return toldNoRoom
	}
	return toldNoPower
}

// put puts bytes behind an upload.
func (t *Tenant) put(name string, b []byte) api.Told {
	if !text.Name(name) {
		return refused(toldWrong)
	}
	if t.has(historyFront + name) {
		return refused(toldThere)
	}
	upload, _ := t.store.Get(uploadFront + name)
	if len(upload)+len(b) > api.MaxValue {
		return refused(toldBig)
	}
	upload = slices.Concat(upload, b)
	return counted(len(upload), t.commit(set(uploadFront+name, upload)))
}

// seal makes a history of an upload.
func (t *Tenant) seal(name string) api.Told {
	if !text.Name(name) {
		return refused(toldWrong)
	}
	if t.has(historyFront + name) {
		return refused(toldThere)
	}
	upload, ok := t.store.Get(uploadFront + name)
	if !ok {
		return refused(toldNone)
	}
	ops, err := readOps(upload)
	if err != api.OK {
		return refused(toldNoForm)
	}
	return counted(len(ops), t.commit(gone(uploadFront+name), set(historyFront+name, upload)))
}

// readOps answers the operations of a history's text.
func readOps(b []byte) ([]api.Op, api.Errno) {
	events, err := hist.Decode(b)
	if err != api.OK {
		return nil, err
	}
	return hist.Ops(events)
}

// specify puts a specification there.
func (t *Tenant) specify(name string, b []byte) api.Told {
	if !text.Name(name) {
		return refused(toldWrong)
	}
	if t.has(specFront + name) {
		return refused(toldThere)
	}
	l, err := code.Decode(b)
	if err != api.OK {
		return refused(toldNoForm)
	}
	return counted(len(l), t.commit(set(specFront+name, b)))
}

// submit lets a job wait.
func (t *Tenant) submit(j job) api.Told {
	number := t.jobs()
	switch {
	case !text.Name(j.history) || !text.Name(j.spec):
		return refused(toldWrong)
	case !t.has(historyFront+j.history) || !t.has(specFront+j.spec):
		return refused(toldNone)
	case t.queue.Len() >= t.limits.Queue || number == api.MaxJobs:
		return refused(toldMany)
	case !isTime(j.time):
		return refused(toldWrong)
	}
	status := t.commit(set(numbered(waitingFront, number), j.value()))
	if status == toldDone {
		t.queue.Put(number)
	}
	return counted(number, status)
}
