package walk

import (
	"strings"

	"stencil/api"
	"stencil/reckon"
)

// walker goes through a core, with the stack that each node has; it has room for so many nodes of the forest more.
type walker struct {
	Places
	maker Maker
	sizes []int
	room  int
}

// nodes meets cs, the first of which has that number.
func (w *walker) nodes(cs []api.Core, number int) {
	for _, c := range cs {
		w.node(c, number)
		number += w.sizes[number]
	}
}

func (w *walker) node(c api.Core, number int) {
	switch c.Kind {
	case api.CText:
		w.enter()
		w.maker.Text(number, w.text(c.Parts))
	case api.CElem:
		w.enter()
		w.maker.Element(number, c.Tag, w.attrs(c.Fields), func() { w.nodes(c.Kids, number+1) })
	case api.CIf:
		w.choose(c, number)
	case api.CFor:
		w.loop(c, number)
	case api.CWith:
		w.with(c, number)
	}
}

// enter is asked ahead of all else of a node of the forest.
func (w *walker) enter() {
	if w.room == 0 {
		panic(api.ErrRenderLarge)
	}
	w.room--
}

func (w *walker) text(parts []api.Part) string {
	var out strings.Builder
	for _, part := range parts {
		piece := part.Plain
		if part.Bound {
			piece = Text(w.value(part.Expr))
		}
		if out.Len()+len(piece) > api.MaxStr {
			panic(api.ErrEvalLong)
		}
		out.WriteString(piece)
	}
	return out.String()
}

func (w *walker) attrs(fields []api.Field) []api.Attr {
	var out []api.Attr
	for _, field := range fields {
		if content, ok := w.attr(field); ok {
			out = append(out, api.Attr{Name: field.Name, Value: content})
		}
	}
	return out
}

// attr is what a field comes to, and whether it is an attribute at all.
func (w *walker) attr(field api.Field) (string, bool) {
	if !field.Bound {
		return field.Plain, true
	}
	return Attr(w.value(field.Expr))
}

// choose goes past the numbers of the kids, if it is the else that is met.
func (w *walker) choose(c api.Core, number int) {
	number++
	if Truth(w.value(c.Exprs[0])) {
		w.nodes(c.Kids, number)
		return
	}
	for range c.Kids {
		number += w.sizes[number]
	}
	w.nodes(c.Else, number)
}

func (w *walker) loop(c api.Core, number int) {
	list := List(w.value(c.Exprs[0]))
	key := func() api.Value { return w.value(c.Exprs[1]) }
	w.maker.Loop(number, w.Keys(list, key, api.ErrRenderKey), func(i int) {
		w.Within(list, i, func() { w.nodes(c.Kids, number+1) })
	})
}

// value asks neither whether e nor whether what lies on the stack may be: core.Check and value.Check did, and what comes of such may be too.
func (w *walker) value(e api.Expr) api.Value {
	v, code := reckon.Value(e, w.At)
	if code != api.OK {
		panic(code)
	}
	return v
}

// with puts each value on the stack as soon as it is known: no expression of c asks for the place of one ahead of it, as core.Check bounds the places.
func (w *walker) with(c api.Core, number int) {
	for _, e := range c.Exprs {
		w.Push(w.value(e))
	}
	w.nodes(c.Kids, number+1)
	w.Drop(len(c.Exprs))
}
