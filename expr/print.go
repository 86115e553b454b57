package expr

import (
	"slices"
	"strings"

	"stencil/api"
	"stencil/short"
	"stencil/utf"
	"stencil/whole"
)

// mayBe tells whether e, of at most so many nodes as there is room for, is a tree that could be read; it takes from the room what e needs, and goes no further than that.
func mayBe(e api.Expr, room *int) bool {
	if *room == 0 || len(e.Kids) != kidsOf(e.Op) || !fits(e) {
		return false
	}
	*room--
	for _, kid := range e.Kids {
		if !mayBe(kid, room) {
			return false
		}
	}
	return true
}

// kidsOf is how many kids each Op has; -1 of those that are none.
func kidsOf(op int) int {
	switch {
	case api.ENull <= op && op <= api.EVar:
		return 0
	case op == api.EField, op == api.ECall, op == api.ENeg, op == api.ENot:
		return 1
	case op == api.EIndex, api.EMul <= op && op <= api.EAny:
		return 2
	case op == api.EIf:
		return 3
	}
	return -1
}

// fits tells whether Int and Str are such as the Op asks for.
func fits(e api.Expr) bool {
	switch e.Op {
	case api.EInt:
		return e.Int >= 0 && e.Str == ""
	case api.EStr:
		return e.Int == 0 && isText(e.Str)
	case api.EVar:
		return e.Int == 0 && utf.Name(e.Str) && !slices.Contains(words(), e.Str)
	case api.EField:
		return e.Int == 0 && utf.Name(e.Str)
	case api.ECall:
		return api.CallLen <= e.Int && e.Int <= api.CallU32 && e.Str == ""
	}
	return e.Int == 0 && e.Str == ""
}

// isText tells whether a text can be written: of the bytes below 32 only LF has an escape.
func isText(s string) bool {
	if !short.Text(s) {
		return false
	}
	for i := range len(s) {
		if s[i] < ' ' && s[i] != '\n' {
			return false
		}
	}
	return true
}

// placeOf is the level that an Op is read at, and the sign between its operands, if it has one there.
func placeOf(op int) (int, string) {
	switch op {
	case api.EIf:
		return choiceLevel, ""
	case api.ENeg, api.ENot:
		return signLevel, ""
	}
	for level, row := range levels() {
		for _, one := range row {
			if one.op == op {
				return level, one.sign
			}
		}
	}
	return partLevel, ""
}

// appendExpr writes e where the loosest that is read without parentheses is of that level.
func appendExpr(out []byte, e api.Expr, loosest int) []byte {
	level, sign := placeOf(e.Op)
	if level < loosest {
		return appendBetween(out, '(', e, ')')
	}
	switch level {
	case choiceLevel:
		out = append(appendExpr(out, e.Kids[0], looseLevel), " ? "...)
		out = append(appendExpr(out, e.Kids[1], choiceLevel), " : "...)
		return appendExpr(out, e.Kids[2], choiceLevel)
	case signLevel:
		return appendSigned(out, e)
	case partLevel:
		return appendPart(out, e)
	}
	// What leans to the left needs no parentheses there.
	out = append(appendExpr(out, e.Kids[0], level), ' ')
	out = append(append(out, sign...), ' ')
	return appendExpr(out, e.Kids[1], level+1)
}

func appendBetween(out []byte, opening byte, e api.Expr, closing byte) []byte {
	out = appendExpr(append(out, opening), e, choiceLevel)
	return append(out, closing)
}

func appendSigned(out []byte, e api.Expr) []byte {
	if e.Op == api.ENeg {
		out = append(out, '-')
	} else {
		out = append(out, '!')
	}
	return appendExpr(out, e.Kids[0], signLevel)
}

func appendPart(out []byte, e api.Expr) []byte {
	switch e.Op {
	case api.EInt:
		return append(out, whole.Text(e.Int)...)
	case api.EStr:
		return appendText(out, e.Str)
	case api.EVar:
		return append(out, e.Str...)
	case api.EField:
		out = append(appendExpr(out, e.Kids[0], partLevel), '.')
		return append(out, e.Str...)
	case api.EIndex:
		out = appendExpr(out, e.Kids[0], partLevel)
		return appendBetween(out, '[', e.Kids[1], ']')
	case api.ECall:
		out = append(out, calls()[e.Int]...)
		return appendBetween(out, '(', e.Kids[0], ')')
	}
	return append(out, words()[e.Op]...)
}

// appendText goes byte by byte: no byte of a longer character is below 128.
func appendText(out []byte, s string) []byte {
	out = append(out, '\'')
	for i := range len(s) {
		if escape := strings.IndexByte(escapedBytes, s[i]); escape >= 0 {
			out = append(out, '\\', escapeLetters[escape])
		} else {
			out = append(out, s[i])
		}
	}
	return append(out, '\'')
}
