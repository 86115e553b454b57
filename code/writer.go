package code

import "stencil/api"

// writer writes code; whatever an expression is, its code puts one value on the pile.
type writer struct {
	code  []api.Inst
	texts []string
}

func (w *writer) write(e api.Expr) {
	switch e.Op {
	case api.EBoth:
		w.logic(api.IBoth, e)
	case api.EAny:
		w.logic(api.IAny, e)
	case api.EIf:
		w.choice(e)
	default:
		for _, kid := range e.Kids {
			w.write(kid)
		}
		// Up to EOther an Op has the number of the instruction that does it; where that has no A, Int is 0.
		w.put(e.Op, w.operand(e))
	}
}

// logic goes past the second kid, if the first one settles it.
func (w *writer) logic(op int, e api.Expr) {
	w.write(e.Kids[0])
	settled := w.put(op, 0)
	w.write(e.Kids[1])
	w.put(api.IBool, 0)
	w.land(settled)
}

func (w *writer) choice(e api.Expr) {
	w.write(e.Kids[0])
	otherwise := w.put(api.IElse, 0)
	w.write(e.Kids[1])
	done := w.put(api.IJump, 0)
	w.land(otherwise)
	w.write(e.Kids[2])
	w.land(done)
}

// operand is the A of an instruction: a text is told by its number.
func (w *writer) operand(e api.Expr) int {
	if e.Op != api.EStr && e.Op != api.EField {
		return e.Int
	}
	w.texts = append(w.texts, e.Str)
	return len(w.texts) - 1
}

// put answers the number of the instruction that it writes.
func (w *writer) put(op, a int) int {
	w.code = append(w.code, api.Inst{Op: op, A: a})
	return len(w.code) - 1
}

// land lets a jump lead to what is written next.
func (w *writer) land(jump int) {
	w.code[jump].A = len(w.code)
}
