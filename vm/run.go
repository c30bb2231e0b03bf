package vm

import "inquest/api"

// goesOn is how an instruction ends that does not end the Step.
const goesOn = 0

// refusal is what an instruction that refuses panics with.
const refusal = "refused"

// run is one Step that is under way. No number is looked for that is not there, and none put where no room is: code.Check took the code.
type run struct {
	at        int // the place of the instruction that is done next
	cells     api.State
	kind, arg int64
	ret       int64 // what was answered
	stack     [api.MaxStack]int64
	depth     int
}

// do does an instruction, and answers how the Step ends by it, or goesOn.
func (r *run) do(v api.Ins) (end int) {
	// What refuses gives up from within a reckoning, too. Nothing has to be undone: a refusal tells nothing of the run.
	defer func() {
		if recover() != nil {
			end = api.Refused
		}
	}()
	r.at++
	switch v.Op {
	case api.IJump:
		r.at = int(v.N)
	case api.IUnless:
		if r.take() == 0 {
			r.at = int(v.N)
		}
	case api.IAnswer:
		r.ret = r.take()
		return api.Answered
	case api.IRefuse:
		panic(refusal)
	default:
		r.work(v)
	}
	return goesOn
}

// work does an instruction behind which the next one follows.
func (r *run) work(v api.Ins) {
	switch v.Op {
	case api.IPush:
		r.put(v.N)
	case api.IPop:
		r.take()
	case api.IDup:
		b := r.take()
		r.put(b)
		r.put(b)
	case api.ISwap:
		b, a := r.take(), r.take()
		r.put(b)
		r.put(a)
	case api.ILoad:
		r.put(r.cells[v.N])
	case api.IStore:
		r.cells[v.N] = r.take()
	case api.IArg:
		r.put(r.arg)
	case api.IKind:
		r.put(r.kind)
	case api.INot:
		r.put(truth(r.take() == 0))
	default:
		b, a := r.take(), r.take()
		r.put(reckon(v.Op, a, b))
	}
}

// reckon answers what an instruction makes of two numbers.
func reckon(op int, a, b int64) int64 {
	switch op {
	case api.IAdd:
		return a + b
	case api.ISub:
		return a - b
	case api.IMul:
		return a * b
	case api.IDiv:
		return a / divisor(b)
	case api.IRem:
		return a % divisor(b)
	case api.ILess:
		return truth(a < b)
	}
	return truth(a == b) // ISame, the only one left
}

// divisor answers a number by which another one can be divided; it refuses nought.
func divisor(b int64) int64 {
	if b == 0 {
		panic(refusal)
	}
	return b
}

// truth answers the number that says whether something holds.
func truth(holds bool) int64 {
	if holds {
		return 1
	}
	return 0
}

// put puts a number on the stack.
func (r *run) put(n int64) {
	r.stack[r.depth] = n
	r.depth++
}

// take takes the top number off the stack.
func (r *run) take() int64 {
	r.depth--
	return r.stack[r.depth]
}
