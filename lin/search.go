package lin

import "inquest/api"

// set is a set of places of operations, a bit each: there are at most MaxOps, 64.
type set uint64

// with answers the set with a place in it.
func (s set) with(at int) set { return s | 1<<at }

// has tells whether a place is in the set.
func (s set) has(at int) bool { return s>>at&1 != 0 }

// within tells whether all that is in the set is in another one.
func (s set) within(other set) bool { return s&^other == 0 }

// position is which operations are done, and the cells behind them.
type position struct {
	set   set
	cells api.State
}

// frame is a position at which the search is, or from which it went on.
type frame struct {
	position
	at int // the place that is tried next here, or by which the search went on
}

// runs tells whether a try is due.
func (t *Task) runs() bool { return t != nil && len(t.frames) > 0 }

// last answers the frame at which the search is.
func (t *Task) last() *frame { return &t.frames[len(t.frames)-1] }

// enter goes on at a position at which the search never was.
func (t *Task) enter(p position) {
	t.met[p] = struct{}{}
	t.frames = append(t.frames, frame{position: p})
}

// leave goes back from a position of which nothing came, to the next place of the one ahead.
func (t *Task) leave() {
	t.frames = t.frames[:len(t.frames)-1]
	if len(t.frames) > 0 {
		t.last().at++
	}
}

// tryNext does the try that is due.
func (t *Task) tryNext() {
	f := t.last()
	o := t.ops[f.at]
	t.tries++
	step := t.machine.Step(f.cells, o.Op, o.Arg, t.fuel)
	if step.Kind == api.NoFuel {
		t.end(api.OutFuel)
		return
	}
	p := position{set: f.set.with(f.at), cells: step.State}
	if agrees(o, step) && !t.wasAt(p) {
		t.enter(p)
	} else {
		f.at++
	}
	t.settle()
}

// settle looks for the next try that is due; where there is none, or none is left, it ends the search. It does so behind each try, so that the search is over as soon as it can be, and not with the next Go.
func (t *Task) settle() {
	for len(t.frames) > 0 {
		f := t.last()
		if t.done.within(f.set) {
			t.end(api.Fits)
			return
		}
		f.at = t.due(f.set, f.at)
		if f.at < len(t.ops) {
			if t.tries == t.budget {
				t.end(api.OutTry)
			}
			return
		}
		t.leave()
	}
	t.end(api.FitsNot)
}

// due answers the first place from a place on that is to be tried where those of a set are done; how many operations there are, if there is none.
func (t *Task) due(s set, from int) int {
	for at := from; at < len(t.ops); at++ {
		if !s.has(at) && t.ahead[at].within(s) {
			return at
		}
	}
	return len(t.ops)
}

// wasAt tells whether the search was at a position ever.
func (t *Task) wasAt(p position) bool {
	_, met := t.met[p]
	return met
}

// end keeps what the search told, and lets go of what only a search needs.
func (t *Task) end(kind int) {
	t.kind = kind
	if kind == api.Fits {
		t.order = t.way()
	}
	t.frames = nil
	clear(t.met)
}

// way answers the places by which the search came to where it is.
func (t *Task) way() []int {
	var l []int
	for _, f := range t.frames[:len(t.frames)-1] {
		l = append(l, f.at)
	}
	return l
}

// agrees tells whether a Step does an operation as it was told.
func agrees(o api.Op, step api.Step) bool {
	return step.Kind == api.Answered && (!o.Done || o.Ret == step.Ret)
}
