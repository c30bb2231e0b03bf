package code

import "inquest/api"

// unled is the depth of a place that nothing leads to.
const unled = -1

// walk is code that is gone through; all its instructions can be.
type walk struct {
	code   []api.Ins
	depths []int
	gone   []bool // which places were gone through
}

// begin answers a walk at place 0.
func begin(l []api.Ins) *walk {
	w := &walk{code: l, depths: make([]int, len(l)), gone: make([]bool, len(l))}
	for i := range w.depths {
		w.depths[i] = unled
	}
	w.depths[0] = 0
	return w
}

// next answers the place that is gone through next, and whether there is one.
func (w *walk) next() (int, bool) {
	// From 0 on each time: a jump back may have led to a place ahead of those that wait.
	for i, depth := range w.depths {
		if depth != unled && !w.gone[i] {
			return i, true
		}
	}
	return 0, false
}

// through goes through a place.
func (w *walk) through(at int) api.Errno {
	w.gone[at] = true
	v, depth := w.code[at], w.depths[at]
	if depth < Takes(v.Op) {
		return api.ErrShort
	}
	// What ends puts nothing on, so that it needs no word of its own here.
	depth += Puts(v.Op) - Takes(v.Op)
	if depth > api.MaxStack {
		return api.ErrFull
	}
	if goesBehind(v.Op) {
		if e := w.lead(at+1, depth); e != api.OK {
			return e
		}
	}
	if jumps(v.Op) {
		return w.lead(int(v.N), depth)
	}
	return api.OK
}

// lead goes on at a place with so many numbers on the stack.
func (w *walk) lead(to, depth int) api.Errno {
	if to == len(w.code) {
		return api.ErrRest
	}
	if w.depths[to] == unled {
		w.depths[to] = depth
	}
	if w.depths[to] != depth {
		return api.ErrFlow
	}
	return api.OK
}
