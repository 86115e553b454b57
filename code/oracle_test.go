package code

import (
	"unicode/utf8"

	"stencil/api"
	"stencil/core"
	"stencil/eval"
	"stencil/value"
)

// The document said a second time: the table of instructions as rows; ways are a list that only grows; code is run by calls of itself over a pile of links, each operation by chapter 11's call with names for what it takes.

// What an instruction's A may be.
const (
	nought = iota
	anything
	textNumber
	place
	callNumber
	jump
)

// said is a row of the table: what A is, how many values must lie there, and how many more lie there where the next one follows, and where it jumps.
type said struct {
	a, lie, next, jumped int
}

// table is the table of instructions, by their Op.
func table() map[int]said {
	rows := map[int]said{
		api.INull: {nought, 0, 1, 0}, api.IFalse: {nought, 0, 1, 0}, api.ITrue: {nought, 0, 1, 0},
		api.IInt: {anything, 0, 1, 0}, api.IStr: {textNumber, 0, 1, 0}, api.IVar: {place, 0, 1, 0},
		api.IField: {textNumber, 1, 0, 0}, api.ICall: {callNumber, 1, 0, 0}, api.INeg: {nought, 1, 0, 0}, api.INot: {nought, 1, 0, 0}, api.IBool: {nought, 1, 0, 0},
		api.IBoth: {jump, 1, -1, 0}, api.IAny: {jump, 1, -1, 0}, api.IElse: {jump, 1, -1, -1}, api.IJump: {jump, 0, 0, 0},
	}
	for _, op := range []int{api.IIndex, api.IMul, api.IDiv, api.IMod, api.IAdd, api.ISub, api.ICat, api.IShl, api.IShr, api.IAnd, api.IXor, api.IOr, api.ILess, api.IMost, api.IMore, api.ILeast, api.ISame, api.IOther} {
		rows[op] = said{nought, 2, -1, 0}
	}
	return rows
}

// way leads to an instruction, or to the end, with so many values on the pile.
type way struct {
	to, height int
}

// asker asks code by the table; made once, it serves many codes.
type asker map[int]said

// check is what P20.1 says.
func (rows asker) check(code []api.Inst, texts, depth int) api.Errno {
	if len(code) > 8192 {
		return api.ErrCodeLong
	}
	ways := []way{{0, 0}}
	for number, inst := range code {
		height, ok := reached(ways, number)
		if !ok {
			return api.ErrCodeStack
		}
		if fault := rows.alone(inst, number, len(code), texts, depth); fault != api.OK {
			return fault
		}
		row := rows[inst.Op]
		if height < row.lie {
			return api.ErrCodeStack
		}
		if row.a == jump {
			ways = append(ways, way{inst.A, height + row.jumped})
		}
		if inst.Op != api.IJump {
			ways = append(ways, way{number + 1, height + row.next})
		}
		if !agree(ways) {
			return api.ErrCodeStack
		}
		ways = ahead(ways, number)
	}
	if height, ok := reached(ways, len(code)); !ok || height != 1 {
		return api.ErrCodeStack
	}
	return api.OK
}

// alone is what may not be of an instruction, whatever lies on the pile.
func (rows asker) alone(inst api.Inst, number, count, texts, depth int) api.Errno {
	row, ok := rows[inst.Op]
	within := func(from, to int) bool { return inst.A >= from && inst.A <= to }
	below := func(count int) bool { return inst.A >= 0 && inst.A < count }
	switch {
	case !ok, row.a == nought && inst.A != 0, row.a == callNumber && !within(1, 8):
		return api.ErrCodeForm
	case row.a == textNumber && !below(texts), row.a == place && !below(depth):
		return api.ErrCodeName
	case row.a == jump && !within(number+1, count):
		return api.ErrCodeJump
	}
	return api.OK
}

// reached is with how many values the first way leads there.
func reached(ways []way, to int) (int, bool) {
	for _, w := range ways {
		if w.to == to {
			return w.height, true
		}
	}
	return 0, false
}

// agree tells whether no two ways lead to one place with two heights.
func agree(ways []way) bool {
	for i, a := range ways {
		for _, b := range ways[:i] {
			if a.to == b.to && a.height != b.height {
				return false
			}
		}
	}
	return true
}

// ahead are the ways that lead behind an instruction: the others are of no use any more; of those that are the same one is kept.
func ahead(ways []way, number int) []way {
	var out []way
	for _, w := range ways {
		if _, ok := reached(out, w.to); w.to > number && !ok {
			out = append(out, w)
		}
	}
	return out
}

// answer is what Run answers.
type answer struct {
	v    api.Value
	code api.Errno
}

func failed(code api.Errno) answer { return answer{code: code} }

func came(v api.Value) answer { return answer{v: v} }

// link is a value of a pile, on those below it.
type link struct {
	v     api.Value
	below *link
}

// run is what P20.2 says.
func (rows asker) run(code []api.Inst, texts []string, stack []api.Value) answer {
	for _, s := range texts {
		if len(s) > 4096 || !utf8.ValidString(s) {
			return failed(api.ErrCodeForm)
		}
	}
	if fault := rows.check(code, len(texts), len(stack)); fault != api.OK {
		return failed(fault)
	}
	for _, v := range stack {
		if value.Check(v) != api.OK {
			return failed(api.ErrEvalTree)
		}
	}
	return rows.from(0, nil, code, texts, stack)
}

// from is what code comes to from an instruction on, with this pile.
func (rows asker) from(number int, pile *link, code []api.Inst, texts []string, stack []api.Value) answer {
	if number == len(code) {
		return came(pile.v)
	}
	inst := code[number]
	row := rows[inst.Op]
	if inst.Op == api.IJump {
		return rows.from(inst.A, pile, code, texts, stack)
	}
	if row.a == jump || inst.Op == api.IBool {
		if pile.v.Kind != api.KBool {
			return failed(api.ErrEvalType)
		}
		switch {
		case inst.Op == api.IBool:
			return rows.from(number+1, pile, code, texts, stack)
		case inst.Op == api.IElse && !pile.v.Bool:
			return rows.from(inst.A, pile.below, code, texts, stack)
		case inst.Op == api.IBoth && !pile.v.Bool, inst.Op == api.IAny && pile.v.Bool:
			return rows.from(inst.A, pile, code, texts, stack)
		}
		return rows.from(number+1, pile.below, code, texts, stack)
	}
	var taken []api.Value
	for range row.lie {
		taken = append([]api.Value{pile.v}, taken...)
		pile = pile.below
	}
	got := operation(inst, taken, texts, stack)
	if got.code != api.OK {
		return got
	}
	return rows.from(number+1, &link{got.v, pile}, code, texts, stack)
}

// operation is what one instruction puts on the pile, of those that it takes, the lowest first.
func operation(inst api.Inst, taken []api.Value, texts []string, stack []api.Value) answer {
	switch inst.Op {
	case api.IInt:
		return came(whole(inst.A))
	case api.IStr:
		return came(txt(texts[inst.A]))
	case api.IVar:
		return came(stack[inst.A])
	case api.IField:
		// EIndex of a text is as EField, and takes texts that are no names.
		return operation(api.Inst{Op: api.IIndex}, append(taken, txt(texts[inst.A])), nil, nil)
	}
	// So far the numbers of both tables go side by side.
	e := api.Expr{Op: api.ENull + inst.Op - api.INull, Int: inst.A}
	var env []api.Bind
	for i, v := range taken {
		name := []string{"first", "second"}[i]
		e.Kids = append(e.Kids, api.Expr{Op: api.EVar, Str: name})
		env = append(env, api.Bind{Name: name, Value: v})
	}
	v, code := eval.Eval(e, env)
	return answer{v, code}
}

// mayBe is what P20.3 asks of e: chapter 15's call tells, of a text of one part, all but the places; those are told one by one.
func mayBe(e api.Expr) bool {
	fault := core.Check([]api.Core{{Kind: api.CText, Parts: []api.Part{{Bound: true, Expr: e}}}})
	if fault != api.OK && fault != api.ErrCoreName {
		return false
	}
	for _, place := range places(e) {
		if place < 0 {
			return false
		}
	}
	return true
}

// places are those that e asks for.
func places(e api.Expr) []int {
	var out []int
	if e.Op == api.EVar {
		out = append(out, e.Int)
	}
	for _, kid := range e.Kids {
		out = append(out, places(kid)...)
	}
	return out
}
