package tenant_test

import (
	"crypto/sha256"
	"fmt"
	"maps"
	"math"
	"regexp"
	"slices"
	"strings"

	"inquest/api"
	"inquest/code"
	"inquest/entry"
	"inquest/hist"
	"inquest/ledger"
	"inquest/lin"
	"inquest/store"
)

// What the chapter says of a tenant, written anew, for the tests to hold the package against.

const (
	mostUpload = 4096
	mostJobs   = 64
	mostTime   = 1 << 40
	mostFuel   = 10000
	mostTries  = 1 << 30
	mostWait   = 8
	least      = math.MinInt
	greatest   = math.MaxInt
)

// asked is a job as it was asked for.
type asked struct {
	history, spec string
	time          int
}

// words is a tenant by the chapter's words, and how far its disk is.
type words struct {
	lim                       api.Limits
	key                       string
	uploads, histories, specs map[string]string
	jobs                      []asked     // all that were asked for
	entries                   []api.Entry // of the first ones, which are done
	tries                     int         // those that the first one that waits had
	sectors, next             int         // how many the disk has, and the one from which the next text goes
	steps                     int         // how many the disk has left; below 0: no end
	failed                    bool        // the disk erred: no text goes in any more
	told                      map[search]api.Verdict
}

// search is what a verdict hangs on.
type search struct {
	history, spec string
	fuel, budget  int
}

// nothing answers a tenant that has nothing, on a disk of so many sectors.
func nothing(lim api.Limits, key string, sectors int) *words {
	return &words{
		lim: lim, key: key, sectors: sectors, steps: -1,
		uploads: map[string]string{}, histories: map[string]string{}, specs: map[string]string{},
		told: map[search]api.Verdict{},
	}
}

// copied answers the same in other memory.
func (w *words) copied() *words {
	v := *w
	v.uploads, v.histories, v.specs = maps.Clone(w.uploads), maps.Clone(w.histories), maps.Clone(w.specs)
	v.jobs, v.entries = slices.Clone(w.jobs), slices.Clone(w.entries)
	return &v
}

var nameForm = regexp.MustCompile(`^[a-z][a-z0-9-]{0,15}$`)

// isName tells whether a text is a name.
func isName(s string) bool { return nameForm.MatchString(s) }

// jobText answers a waiting job's value.
func jobText(j asked) string {
	return fmt.Sprintf("%-160s", fmt.Sprintf("%s %s %d", j.history, j.spec, j.time))
}

// entryText answers an entry's text.
func entryText(e api.Entry) string {
	b, err := entry.Encode(e)
	if err != api.OK {
		panic(fmt.Sprint(e, err))
	}
	return string(b)
}

// content answers what the store has.
func (w *words) content() map[string]string {
	all := map[string]string{}
	for name, s := range w.uploads {
		all["u/"+name] = s
	}
	for name, s := range w.histories {
		all["h/"+name] = s
	}
	for name, s := range w.specs {
		all["s/"+name] = s
	}
	for k, j := range w.jobs {
		if k < len(w.entries) {
			all[fmt.Sprintf("e/%02d", k)] = entryText(w.entries[k])
		} else {
			all[fmt.Sprintf("j/%02d", k)] = jobText(j)
		}
	}
	return all
}

// used answers how many bytes keys and values have.
func used(content map[string]string) int {
	n := 0
	for key, value := range content {
		n += len(key) + len(value)
	}
	return n
}

// waits answers how many jobs wait.
func (w *words) waits() int { return len(w.jobs) - len(w.entries) }

// put and del answer changes.
func put(key, value string) api.Change { return api.Change{Key: key, Value: []byte(value)} }
func del(key string) api.Change        { return api.Change{Key: key, Del: true} }

// room tells what a disk has to say of a text that is to go into the log: 200, 507 or 503.
func (w *words) room(text []byte) int {
	n := (len(text) + 20 + 63) / 64
	if w.next+n > w.sectors {
		return 507
	}
	steps := n + 2 // each sector, and two Syncs
	if n == 1 {
		steps = 2
	}
	if w.failed || w.steps >= 0 && steps > w.steps {
		w.failed = true
		return 503
	}
	if w.steps >= 0 {
		w.steps -= steps
	}
	w.next += n
	return 200
}

// commit tells what a Commit has to say: 200, 507 or 503.
func (w *words) commit(l ...api.Change) int {
	content := w.content()
	was := used(content)
	for _, c := range l {
		delete(content, c.Key)
		if !c.Del {
			content[c.Key] = string(c.Value)
		}
	}
	if now := used(content); now > w.lim.Quota && now > was {
		return 507
	}
	text, err := store.Encode(l)
	if err != api.OK {
		panic(err)
	}
	return w.room(text)
}

// do answers what Do has to say.
func (w *words) do(a api.Ask, now int) (int, string) {
	switch a.Kind {
	case 1:
		return w.put(a.Name, string(a.Body))
	case 2:
		return w.seal(a.Name)
	case 3:
		return w.spec(a.Name, a.Body)
	case 4:
		return w.submit(asked{a.Name, a.Spec, now})
	case 5:
		return w.job(a.A)
	case 6:
		return w.head(a.A)
	case 7:
		return w.entry(a.A, a.B)
	case 8:
		return w.growth(a.A, a.B)
	case 9:
		return 200, fmt.Sprintf("%d %d %d %d", used(w.content()), w.lim.Quota, w.waits(), len(w.entries))
	case 10:
		return w.head(len(w.entries))
	}
	return 400, ""
}

func (w *words) put(name, body string) (int, string) {
	if !isName(name) {
		return 400, ""
	}
	if _, there := w.histories[name]; there {
		return 409, ""
	}
	all := w.uploads[name] + body
	if len(all) > mostUpload {
		return 413, ""
	}
	if code := w.commit(put("u/"+name, all)); code != 200 {
		return code, ""
	}
	w.uploads[name] = all
	return 200, fmt.Sprint(len(all))
}

func (w *words) seal(name string) (int, string) {
	if !isName(name) {
		return 400, ""
	}
	if _, there := w.histories[name]; there {
		return 409, ""
	}
	all, there := w.uploads[name]
	if !there {
		return 404, ""
	}
	events, err := hist.Decode([]byte(all))
	if err != api.OK {
		return 422, ""
	}
	if code := w.commit(del("u/"+name), put("h/"+name, all)); code != 200 {
		return code, ""
	}
	delete(w.uploads, name)
	w.histories[name] = all
	calls := 0
	for _, v := range events {
		if v.Call {
			calls++
		}
	}
	return 200, fmt.Sprint(calls)
}

func (w *words) spec(name string, body []byte) (int, string) {
	if !isName(name) {
		return 400, ""
	}
	if _, there := w.specs[name]; there {
		return 409, ""
	}
	l, err := code.Decode(body)
	if err != api.OK {
		return 422, ""
	}
	if code := w.commit(put("s/"+name, string(body))); code != 200 {
		return code, ""
	}
	w.specs[name] = string(body)
	return 200, fmt.Sprint(len(l))
}

func (w *words) submit(j asked) (int, string) {
	if !isName(j.history) || !isName(j.spec) {
		return 400, ""
	}
	if _, there := w.histories[j.history]; !there {
		return 404, ""
	}
	if _, there := w.specs[j.spec]; !there {
		return 404, ""
	}
	if w.waits() >= w.lim.Queue || len(w.jobs) >= mostJobs {
		return 429, ""
	}
	if j.time < 0 || j.time > mostTime {
		return 400, ""
	}
	n := len(w.jobs)
	if code := w.commit(put(fmt.Sprintf("j/%02d", n), jobText(j))); code != 200 {
		return code, ""
	}
	w.jobs = append(w.jobs, j)
	return 200, fmt.Sprint(n)
}

func (w *words) job(n int) (int, string) {
	if n < 0 || n >= len(w.jobs) {
		return 404, ""
	}
	if n >= len(w.entries) {
		return 200, "waiting"
	}
	return 200, "done " + entry.Line(w.entries[n].Verdict)
}

// book answers the ledger of all entries.
func (w *words) book() *ledger.Ledger {
	l := ledger.New([]byte(w.key))
	for _, e := range w.entries {
		if err := l.Add(e); err != api.OK {
			panic(err)
		}
	}
	return l
}

func (w *words) head(n int) (int, string) {
	h, err := w.book().Head(n)
	if err != api.OK {
		return 404, ""
	}
	return 200, fmt.Sprintf("%d %x %x %x", h.Size, h.Root, h.Chain, h.Sign)
}

func (w *words) entry(i, n int) (int, string) {
	path, err := w.book().Path(i, n)
	if err != api.OK {
		return 404, ""
	}
	s := fmt.Sprintf("%x", entryText(w.entries[i]))
	for _, d := range path {
		s += fmt.Sprintf("\n%x", d)
	}
	return 200, s
}

func (w *words) growth(m, n int) (int, string) {
	growth, err := w.book().Growth(m, n)
	if err != api.OK {
		return 404, ""
	}
	var l []string
	for _, d := range growth {
		l = append(l, fmt.Sprintf("%x", d))
	}
	return 200, strings.Join(l, "\n")
}

// verdict answers what the whole search tells of a job; it is done once for all that ask the same.
func (w *words) verdict(j asked) api.Verdict {
	x := search{w.histories[j.history], w.specs[j.spec], w.lim.Fuel, w.lim.Budget}
	v, ok := w.told[x]
	if !ok {
		v = x.whole()
		w.told[x] = v
	}
	return v
}

// whole does all of a search.
func (x search) whole() api.Verdict {
	events, e1 := hist.Decode([]byte(x.history))
	ops, e2 := hist.Ops(events)
	l, e3 := code.Decode([]byte(x.spec))
	task, e4 := lin.New(l, x.fuel, x.budget, ops)
	if e1 != api.OK || e2 != api.OK || e3 != api.OK || e4 != api.OK || !task.Go(greatest) {
		panic(fmt.Sprint(x, e1, e2, e3, e4))
	}
	v, _ := task.Verdict()
	return v
}

// entryOf answers the entry of a job.
func (w *words) entryOf(n int) api.Entry {
	j := w.jobs[n]
	return api.Entry{
		Job: n, Time: j.time,
		History: sha256.Sum256([]byte(w.histories[j.history])),
		Spec:    sha256.Sum256([]byte(w.specs[j.spec])),
		Verdict: w.verdict(j),
	}
}

// step answers what Step has to say.
func (w *words) step(n int) (int, bool) {
	if w.waits() == 0 {
		return 0, false
	}
	at := len(w.entries)
	e := w.entryOf(at)
	done := min(max(n, 0), e.Verdict.Tries-w.tries)
	w.tries += done
	if w.tries < e.Verdict.Tries {
		return done, false
	}
	if w.commit(del(fmt.Sprintf("j/%02d", at)), put(fmt.Sprintf("e/%02d", at), entryText(e))) != 200 {
		return done, false
	}
	w.entries = append(w.entries, e)
	w.tries = 0
	return done, true
}

// anew lets the tenant be opened anew: no job did any try yet, and the disk is as it is.
func (w *words) anew() {
	w.tries, w.failed = 0, false
}

// sorted answers the keys of a map, rising.
func sorted[V any](m map[string]V) []string { return slices.Sorted(maps.Keys(m)) }
