package reckon

import (
	"cmp"
	"slices"
	"strings"

	"stencil/api"
	"stencil/value"
	"stencil/whole"
)

// pair is what an operation, one of EField to EOther, comes to of two values. The second is the name of EField as a text, and the number of ECall as an integer; ENeg and ENot look at the first alone.
func pair(op int, a, b api.Value) api.Value {
	switch op {
	case api.EField, api.EIndex:
		return part(a, b)
	case api.ECall:
		return call(a, b)
	case api.ENot:
		return truth(!isTrue(a))
	case api.ENeg:
		a, b = number(0), a
		fallthrough
	case api.ESub:
		return checked(whole.Sub(integers(a, b)))
	case api.EAdd:
		return checked(whole.Add(integers(a, b)))
	case api.EMul:
		return checked(whole.Mul(integers(a, b)))
	case api.EDiv:
		return checked(whole.Div(integers(a, b)))
	case api.EMod:
		return checked(whole.Mod(integers(a, b)))
	case api.EShl:
		return checked(whole.Shl(integers(a, b)))
	case api.EShr:
		return checked(whole.Shr(integers(a, b)))
	case api.EAnd, api.EXor, api.EOr:
		return bits(op, a, b)
	case api.ECat:
		return join(a, b)
	case api.EMore:
		a, b = b, a
		fallthrough
	case api.ELess:
		return truth(order(a, b) < 0)
	case api.ELeast:
		a, b = b, a
		fallthrough
	case api.EMost:
		return truth(order(a, b) <= 0)
	}
	return truth(value.Same(a, b) == (op == api.ESame))
}

func truth(b bool) api.Value { return api.Value{Kind: api.KBool, Bool: b} }

func number(n int) api.Value { return api.Value{Kind: api.KInt, Int: n} }

func text(s string) api.Value { return api.Value{Kind: api.KStr, Str: s} }

// must throws ErrEvalType where a value is not of the kind that an operation takes.
func must(fits bool) {
	if !fits {
		panic(api.ErrEvalType)
	}
}

func isTrue(v api.Value) bool {
	must(v.Kind == api.KBool)
	return v.Bool
}

func integer(v api.Value) int {
	must(v.Kind == api.KInt)
	return v.Int
}

func integers(a, b api.Value) (int, int) {
	return integer(a), integer(b)
}

// checked throws a refusal of the checked integers, by the number that it has here.
func checked(n int, code api.Errno) api.Value {
	switch code {
	case api.ErrWholeOver:
		panic(api.ErrEvalOver)
	case api.ErrWholeZero:
		panic(api.ErrEvalZero)
	case api.ErrWholeShift:
		panic(api.ErrEvalShift)
	}
	return number(n)
}

// part does not copy, for of a large value most parts are only gone through.
func part(v, which api.Value) api.Value {
	if v.Kind == api.KList {
		i := integer(which)
		if i < 0 || i >= len(v.List) {
			panic(api.ErrEvalIndex)
		}
		return v.List[i]
	}
	must(v.Kind == api.KRec && which.Kind == api.KStr)
	i := slices.Index(v.Names, which.Str)
	if i < 0 {
		panic(api.ErrEvalPath)
	}
	return v.List[i]
}

func call(v, which api.Value) api.Value {
	switch which.Int {
	case api.CallLen:
		return number(length(v))
	case api.CallStr:
		return text(textOf(v))
	case api.CallI8:
		return checked(whole.To(integer(v), 8, true))
	case api.CallU8:
		return checked(whole.To(integer(v), 8, false))
	case api.CallI16:
		return checked(whole.To(integer(v), 16, true))
	case api.CallU16:
		return checked(whole.To(integer(v), 16, false))
	case api.CallI32:
		return checked(whole.To(integer(v), 32, true))
	}
	return checked(whole.To(integer(v), 32, false))
}

func length(v api.Value) int {
	if v.Kind == api.KStr {
		return len(v.Str)
	}
	must(v.Kind == api.KList || v.Kind == api.KRec)
	return len(v.List)
}

func textOf(v api.Value) string {
	s, code := value.Text(v)
	must(code == api.OK)
	return s
}

func bits(op int, a, b api.Value) api.Value {
	x, y := integers(a, b)
	switch op {
	case api.EAnd:
		return number(x & y)
	case api.EXor:
		return number(x ^ y)
	}
	return number(x | y)
}

func join(a, b api.Value) api.Value {
	x, y := textOf(a), textOf(b)
	if len(x)+len(y) > api.MaxStr {
		panic(api.ErrEvalLong)
	}
	return text(x + y)
}

// order is below 0, 0 or above it, as a lies ahead of b, beside it or behind it.
func order(a, b api.Value) int {
	if a.Kind == api.KStr && b.Kind == api.KStr {
		return strings.Compare(a.Str, b.Str)
	}
	return cmp.Compare(integer(a), integer(b))
}
