package code

import "stencil/api"

// ways are those through code, as far as it has been looked at; as no jump leads back, all that lead to an instruction are known when it is looked at.
type ways struct {
	end, texts, depth int
	// heights holds, for each instruction and the end, 1 more than the height there, so that the array's noughts say that no way has led there.
	heights [api.MaxCode + 1]int16
}

// height is how many values lie on the pile at an instruction, or at the end; -1, if no way has led there.
func (w *ways) height(number int) int {
	return int(w.heights[number]) - 1
}

// lead tells whether a way may lead there with so many values on the pile: no other one has led there with another number.
func (w *ways) lead(to, height int) bool {
	if w.height(to) < 0 {
		w.heights[to] = int16(height + 1)
	}
	return w.height(to) == height
}

// fault is what may not be of an instruction; if nothing, the ways lead on from it.
func (w *ways) fault(number int, inst api.Inst) api.Errno {
	switch {
	case w.height(number) < 0:
		return api.ErrCodeStack
	case !isFormed(inst):
		return api.ErrCodeForm
	case !w.hasName(inst):
		return api.ErrCodeName
	case isJump(inst.Op) && (inst.A <= number || inst.A > w.end):
		return api.ErrCodeJump
	case !w.leadOn(number, inst):
		return api.ErrCodeStack
	}
	return api.OK
}

// hasName tells whether the text or the place of the stack that an instruction names is there.
func (w *ways) hasName(inst api.Inst) bool {
	switch inst.Op {
	case api.IStr, api.IField:
		return 0 <= inst.A && inst.A < w.texts
	case api.IVar:
		return 0 <= inst.A && inst.A < w.depth
	}
	return true
}

// leadOn tells whether enough lies on the pile for an instruction, and where it leads to all ways have one height.
func (w *ways) leadOn(number int, inst api.Inst) bool {
	left := w.height(number) - needs(inst.Op)
	if left < 0 {
		return false
	}
	switch inst.Op {
	case api.IBoth, api.IAny:
		// Where they jump, what they looked at stays.
		return w.lead(inst.A, left+1) && w.lead(number+1, left)
	case api.IElse:
		return w.lead(inst.A, left) && w.lead(number+1, left)
	case api.IJump:
		return w.lead(inst.A, left)
	}
	return w.lead(number+1, left+1)
}

// isFormed tells whether there is such an instruction, and A is such as it asks for by itself.
func isFormed(inst api.Inst) bool {
	switch inst.Op {
	case api.IInt, api.IStr, api.IVar, api.IField, api.IBoth, api.IAny, api.IElse, api.IJump:
		return true
	case api.ICall:
		return api.CallLen <= inst.A && inst.A <= api.CallU32
	}
	return api.INull <= inst.Op && inst.Op <= api.IJump && inst.A == 0
}

func isJump(op int) bool {
	return api.IBoth <= op && op <= api.IJump
}

// needs is how many values an instruction takes or looks at.
func needs(op int) int {
	switch {
	case op <= api.IVar, op == api.IJump:
		return 0
	case op == api.IIndex, api.IMul <= op && op <= api.IOther:
		return 2
	}
	return 1
}
