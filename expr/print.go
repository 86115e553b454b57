package expr

import (
	"slices"
	"strings"

	"stencil/api"
	"stencil/short"
	"stencil/utf"
	"stencil/whole"
)

// canBeRead tells whether a text or a variable could be read, by its Int and Str.
func canBeRead(leaf api.Expr) bool {
	if leaf.Op == api.EVar {
		return leaf.Int == 0 && utf.Name(leaf.Str) && !slices.Contains(words(), leaf.Str)
	}
	return leaf.Int == 0 && isText(leaf.Str)
}

// isText tells whether a text can be written: of the bytes below 32 only LF has an escape.
func isText(s string) bool {
	if !short.Text(s) {
		return false
	}
	for i := range len(s) {
		if s[i] < ' ' && s[i] != '\n' {
			return false
		}
	}
	return true
}

// placeOf is the level that an Op is read at, and the sign between its operands, if it has one there.
func placeOf(op int) (int, string) {
	switch op {
	case api.EIf:
		return choiceLevel, ""
	case api.ENeg, api.ENot:
		return signLevel, ""
	}
	for level, row := range levels() {
		for _, one := range row {
			if one.op == op {
				return level, one.sign
			}
		}
	}
	return partLevel, ""
}

// appendExpr writes e where the loosest that is read without parentheses is of that level.
func appendExpr(out []byte, e api.Expr, loosest int) []byte {
	level, sign := placeOf(e.Op)
	if level < loosest {
		return appendBetween(out, '(', e, ')')
	}
	switch level {
	case choiceLevel:
		out = append(appendExpr(out, e.Kids[0], looseLevel), " ? "...)
		out = append(appendExpr(out, e.Kids[1], choiceLevel), " : "...)
		return appendExpr(out, e.Kids[2], choiceLevel)
	case signLevel:
		return appendSigned(out, e)
	case partLevel:
		return appendPart(out, e)
	}
	// What leans to the left needs no parentheses there.
	out = append(appendExpr(out, e.Kids[0], level), ' ')
	out = append(append(out, sign...), ' ')
	return appendExpr(out, e.Kids[1], level+1)
}

func appendBetween(out []byte, opening byte, e api.Expr, closing byte) []byte {
	out = appendExpr(append(out, opening), e, choiceLevel)
	return append(out, closing)
}

func appendSigned(out []byte, e api.Expr) []byte {
	if e.Op == api.ENeg {
		out = append(out, '-')
	} else {
		out = append(out, '!')
	}
	return appendExpr(out, e.Kids[0], signLevel)
}

func appendPart(out []byte, e api.Expr) []byte {
	switch e.Op {
	case api.EInt:
		return append(out, whole.Text(e.Int)...)
	case api.EStr:
		return appendText(out, e.Str)
	case api.EVar:
		return append(out, e.Str...)
	case api.EField:
		out = append(appendExpr(out, e.Kids[0], partLevel), '.')
		return append(out, e.Str...)
	case api.EIndex:
		out = appendExpr(out, e.Kids[0], partLevel)
		return appendBetween(out, '[', e.Kids[1], ']')
	case api.ECall:
		out = append(out, calls()[e.Int]...)
		return appendBetween(out, '(', e.Kids[0], ')')
	}
	return append(out, words()[e.Op]...)
}

// appendText goes byte by byte: no byte of a longer character is below 128.
func appendText(out []byte, s string) []byte {
	out = append(out, '\'')
	for i := range len(s) {
		if escape := strings.IndexByte(escapedBytes, s[i]); escape >= 0 {
			out = append(out, '\\', escapeLetters[escape])
		} else {
			out = append(out, s[i])
		}
	}
	return append(out, '\'')
}
