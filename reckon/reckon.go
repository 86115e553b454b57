// Package reckon holds what expressions come to (DOC.md, chapter 11), for all layers that reckon them, whether their EVars are names or places, and whether they are trees or code. It asks nothing of what it is given: whoever calls it has checked that.
package reckon

import "stencil/api"

// Value is what e comes to, where bound tells what an EVar stands for and whether it stands for anything. The answer may share memory with what bound tells.
func Value(e api.Expr, bound func(api.Expr) (api.Value, bool)) (api.Value, api.Errno) {
	return caught(func() api.Value { return walker{bound}.value(e) })
}

// caught is what is reckoned, or the error that was thrown on the way.
func caught(reckoned func() api.Value) (v api.Value, code api.Errno) {
	defer func() {
		if thrown, ok := recover().(api.Errno); ok {
			v, code = api.Value{}, thrown
		}
	}()
	return reckoned(), api.OK
}

type walker struct {
	bound func(api.Expr) (api.Value, bool)
}

func (w walker) value(e api.Expr) api.Value {
	switch e.Op {
	case api.ENull:
		return api.Value{Kind: api.KNull}
	case api.EFalse, api.ETrue:
		return truth(e.Op == api.ETrue)
	case api.EInt:
		return number(e.Int)
	case api.EStr:
		return text(e.Str)
	case api.EVar:
		return w.variable(e)
	case api.EBoth, api.EAny:
		return w.logic(e)
	case api.EIf:
		return w.choice(e)
	}
	first := w.value(e.Kids[0])
	return pair(e.Op, first, w.second(e))
}

// second is the second operand of a pair: not every Op has it as a kid.
func (w walker) second(e api.Expr) api.Value {
	switch e.Op {
	case api.EField:
		return text(e.Str)
	case api.ECall:
		return number(e.Int)
	case api.ENeg, api.ENot:
		return api.Value{}
	}
	return w.value(e.Kids[1])
}

func (w walker) variable(e api.Expr) api.Value {
	v, ok := w.bound(e)
	if !ok {
		panic(api.ErrEvalName)
	}
	return v
}

// logic looks at the second kid only where the first does not settle it: a true one settles EAny, a false one EBoth.
func (w walker) logic(e api.Expr) api.Value {
	if isTrue(w.value(e.Kids[0])) == (e.Op == api.EAny) {
		return truth(e.Op == api.EAny)
	}
	return truth(isTrue(w.value(e.Kids[1])))
}

func (w walker) choice(e api.Expr) api.Value {
	if isTrue(w.value(e.Kids[0])) {
		return w.value(e.Kids[1])
	}
	return w.value(e.Kids[2])
}
