package core

import (
	"stencil/api"
	"stencil/shape"
	"stencil/utf"
)

// around is what lies around a node: how many values on the stack, how many elements and fors.
type around struct {
	stack, elements, loops int
}

// enter is what lies around the kids of c, and whether c may be, but for its expressions and kids.
func (a around) enter(c api.Core) (around, bool) {
	kinds := []func(around, api.Core) (around, bool){
		api.CText: around.text,
		api.CElem: around.element,
		api.CIf:   around.condition,
		api.CFor:  around.loop,
		api.CWith: around.with,
	}
	if c.Kind < api.CText || c.Kind >= len(kinds) {
		return a, false
	}
	return kinds[c.Kind](a, c)
}

func (a around) isTooDeep() bool {
	return a.stack > api.MaxStack || a.elements > 2*api.MaxNest-1 || a.loops > api.MaxLoops
}

// has tells whether each place that e asks is one of the stack.
func (a around) has(e api.Expr) bool {
	return shape.Placed(e, a.stack-1)
}

// Each of the following clears the fields that its Kind has; the others must be zero.

func (a around) text(c api.Core) (around, bool) {
	fits := areParts(c.Parts)
	c.Parts = nil
	return a, fits && isBare(c)
}

func (a around) element(c api.Core) (around, bool) {
	a.elements++
	fits := utf.Tag(c.Tag) && areFields(c.Fields)
	c.Tag, c.Fields, c.Kids = "", nil, nil
	return a, fits && isBare(c)
}

func (a around) condition(c api.Core) (around, bool) {
	fits := len(c.Exprs) == 1
	c.Exprs, c.Kids, c.Else = nil, nil, nil
	return a, fits && isBare(c)
}

func (a around) loop(c api.Core) (around, bool) {
	a.loops++
	a.stack += 2
	fits := len(c.Exprs) == 2 && len(c.Kids) == 1 && c.Kids[0].Kind == api.CElem
	c.Exprs, c.Kids = nil, nil
	return a, fits && isBare(c)
}

func (a around) with(c api.Core) (around, bool) {
	a.stack += len(c.Exprs)
	c.Exprs, c.Kids = nil, nil
	return a, isBare(c)
}

// isBare tells whether all fields of a node but its Kind are zero.
func isBare(c api.Core) bool {
	return c.Tag == "" && len(c.Fields) == 0 && len(c.Parts) == 0 && len(c.Exprs) == 0 && len(c.Kids) == 0 && len(c.Else) == 0
}

// areParts tells whether parts make a text, whatever their expressions.
func areParts(parts []api.Part) bool {
	for _, part := range parts {
		if !shape.Value(part) {
			return false
		}
	}
	return shape.Row(parts)
}

// areFields tells whether fields may stand in an element, whatever their expressions.
func areFields(fields []api.Field) bool {
	for i, field := range fields {
		if !utf.Tag(field.Name) || i > 0 && field.Name <= fields[i-1].Name || field.At != 0 {
			return false
		}
		if !shape.Value(api.Part{Plain: field.Plain, Bound: field.Bound, Expr: field.Expr}) {
			return false
		}
	}
	return true
}
