// Package shape holds which expressions may be, those of names and resolved ones (DOC.md, chapters 10 and 15), and which texts and values are made of them.
package shape

import (
	"stencil/api"
	"stencil/short"
	"stencil/utf"
)

// Tree tells whether e has at most so many nodes, and each of them may be; whether a text or a variable may be, leaf tells by its Int and Str. It goes no further than so many nodes, so that an expression that lies in itself many times over ends it too.
func Tree(e api.Expr, most int, leaf func(api.Expr) bool) bool {
	return behind(most, e, leaf) >= 0
}

// Resolved tells whether e may be a resolved expression, whatever the places of its variables.
func Resolved(e api.Expr) bool {
	return Tree(e, 2*api.MaxExpr, func(leaf api.Expr) bool {
		if leaf.Op == api.EVar {
			return leaf.Str == ""
		}
		return leaf.Int == 0 && short.Text(leaf.Str)
	})
}

// Placed tells whether the places that e asks are all from 0 to last.
func Placed(e api.Expr, last int) bool {
	if e.Op == api.EVar && (e.Int < 0 || e.Int > last) {
		return false
	}
	for _, kid := range e.Kids {
		if !Placed(kid, last) {
			return false
		}
	}
	return true
}

// Row tells whether parts may stand in one text, by which of them are plain.
func Row(parts []api.Part) bool {
	for i, part := range parts {
		if !part.Bound && (part.Plain == "" || i > 0 && !parts[i-1].Bound) {
			return false
		}
	}
	return len(parts) > 0
}

// Value tells whether one of a text's parts, or a field's value, is either a plain text or an expression, whatever that is.
func Value(part api.Part) bool {
	if part.Bound {
		return part.Plain == ""
	}
	return short.Text(part.Plain) && isNone(part.Expr)
}

// isNone tells the zero expression, whose kids may be an empty list.
func isNone(e api.Expr) bool {
	return e.Op == 0 && e.Int == 0 && e.Str == "" && len(e.Kids) == 0
}

// behind is how much of the room is left behind the nodes of e; it is below 0, if there is not enough, or one of them may not be.
func behind(room int, e api.Expr, leaf func(api.Expr) bool) int {
	if room <= 0 || len(e.Kids) != kidsOf(e.Op) || !fits(e, leaf) {
		return -1
	}
	room--
	for _, kid := range e.Kids {
		room = behind(room, kid, leaf)
	}
	return room
}

// kidsOf is how many kids each Op has; -1 of those that are none.
func kidsOf(op int) int {
	switch {
	case api.ENull <= op && op <= api.EVar:
		return 0
	case op == api.EField, op == api.ECall, op == api.ENeg, op == api.ENot:
		return 1
	case op == api.EIndex, api.EMul <= op && op <= api.EAny:
		return 2
	case op == api.EIf:
		return 3
	}
	return -1
}

// fits tells whether Int and Str are such as the Op asks for.
func fits(e api.Expr, leaf func(api.Expr) bool) bool {
	switch e.Op {
	case api.EStr, api.EVar:
		return leaf(e)
	case api.EInt:
		return e.Int >= 0 && e.Str == ""
	case api.EField:
		return e.Int == 0 && utf.Name(e.Str)
	case api.ECall:
		return api.CallLen <= e.Int && e.Int <= api.CallU32 && e.Str == ""
	}
	return e.Int == 0 && e.Str == ""
}
