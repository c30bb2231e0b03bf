package tenant

import (
	"slices"
	"strings"

	"inquest/api"
	"inquest/entry"
	"inquest/text"
)

const lineEnd = "\n"

// tellJob tells how a job stands.
func (t *Tenant) tellJob(number int) api.Told {
	if slices.Contains(t.queue.Waiting(), number) {
		return said("waiting")
	}
	b, err := t.ledger.Text(number)
	if err != api.OK {
		return refused(toldNone)
	}
	e, _ := entry.Decode(b)
	return said("done" + blank + entry.Line(e.Verdict))
}

// tellHead tells the head of the first entries.
func (t *Tenant) tellHead(size int) api.Told {
	h, err := t.ledger.Head(size)
	if err != api.OK {
		return refused(toldNone)
	}
	digests := hexes([]api.Digest{h.Root, h.Chain, h.Sign})
	return said(text.Dec(h.Size) + blank + strings.Join(digests, blank))
}

// tellEntry tells an entry, and what shows that it is one of the first size.
func (t *Tenant) tellEntry(number, size int) api.Told {
	path, err := t.ledger.Path(number, size)
	if err != api.OK {
		return refused(toldNone)
	}
	b, _ := t.ledger.Text(number)
	lines := append([]string{text.Hex(b)}, hexes(path)...)
	return said(strings.Join(lines, lineEnd))
}

// tellGrowth tells what shows that the head of size entries begins with one of fewer.
func (t *Tenant) tellGrowth(fewer, size int) api.Told {
	growth, err := t.ledger.Growth(fewer, size)
	if err != api.OK {
		return refused(toldNone)
	}
	return said(strings.Join(hexes(growth), lineEnd))
}

// hexes answers digests as letters.
func hexes(l []api.Digest) []string {
	var all []string
	for _, d := range l {
		all = append(all, text.Hex(d[:]))
	}
	return all
}

// tellUsage tells how much of the limits is used.
func (t *Tenant) tellUsage() api.Told {
	var all []string
	for _, n := range []int{t.store.Used(), t.limits.Quota, t.queue.Len(), t.ledger.Size()} {
		all = append(all, text.Dec(n))
	}
	return said(strings.Join(all, blank))
}
