package tenant

import (
	"strings"

	"inquest/api"
	"inquest/code"
	"inquest/entry"
	"inquest/hist"
	"inquest/text"
)

// What a key begins with: behind it stands a name, or a job's number.
const (
	uploadFront  = "u/"
	historyFront = "h/"
	specFront    = "s/"
	waitingFront = "j/"
	doneFront    = "e/"
)

const (
	blank    = " "
	jobBytes = 160 // of a waiting job's value: no entry's text has more, so that the entry always has room in its stead
)

// job is what a waiting job's value says.
type job struct {
	history, spec string
	time          int
}

// numbered answers a job's key.
func numbered(front string, number int) string {
	return front + text.Dec(number/10) + text.Dec(number%10)
}

// value answers a waiting job's value.
func (j job) value() []byte {
	s := strings.Join([]string{j.history, j.spec, text.Dec(j.time)}, blank)
	return []byte(s + strings.Repeat(blank, jobBytes-len(s)))
}

// readJob answers the job that a value says, if it says one. Whether its names are names is not asked: takeJob asks for what they name, which has none but names.
func readJob(b []byte) (job, bool) {
	pieces, _ := text.Fields(strings.TrimRight(string(b), blank), blank[0], 3)
	if len(b) != jobBytes || len(pieces) != 3 {
		return job{}, false
	}
	time, ok := text.ReadDec(pieces[2])
	if !ok || !isTime(time) {
		return job{}, false
	}
	return job{history: pieces[0], spec: pieces[1], time: time}, true
}

// has tells whether the store has a key.
func (t *Tenant) has(key string) bool {
	_, ok := t.store.Get(key)
	return ok
}

// takeAll puts the jobs of the store where they belong. It tells whether all that is there is what a tenant leaves.
func (t *Tenant) takeAll() bool {
	// The keys rise: the entries come ahead of the jobs that wait, as their numbers do.
	for _, p := range t.store.All() {
		if !t.take(p) {
			return false
		}
	}
	return true
}

// take does so with one key and its value.
func (t *Tenant) take(p api.Pair) bool {
	front := p.Key[:min(len(p.Key), len(doneFront))]
	name := p.Key[len(front):]
	switch front {
	case doneFront:
		return t.takeEntry(p)
	case waitingFront:
		return t.takeJob(p)
	case historyFront:
		_, err := hist.Decode(p.Value)
		return text.Name(name) && err == api.OK
	case specFront:
		_, err := code.Decode(p.Value)
		return text.Name(name) && err == api.OK
	case uploadFront:
		return text.Name(name) && !t.has(historyFront+name)
	}
	return false
}

// takeEntry puts an entry behind the others of the ledger, which refuses all but the next one.
func (t *Tenant) takeEntry(p api.Pair) bool {
	e, err := entry.Decode(p.Value)
	return err == api.OK && p.Key == numbered(doneFront, e.Job) && t.ledger.Add(e) == api.OK
}

// takeJob lets a job wait behind the others, if it is the next one.
func (t *Tenant) takeJob(p api.Pair) bool {
	j, ok := readJob(p.Value)
	number := t.jobs()
	if !ok || number == api.MaxJobs || p.Key != numbered(waitingFront, number) {
		return false
	}
	return t.has(historyFront+j.history) && t.has(specFront+j.spec) && t.queue.Put(number) == api.OK
}

// jobs answers how many were asked for: it is the next one's number.
func (t *Tenant) jobs() int { return t.ledger.Size() + t.queue.Len() }
