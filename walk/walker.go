package walk

import (
	"strings"

	"stencil/api"
)

// walker goes through a core, with the stack that each node has; it has room for so many nodes of the forest more.
type walker struct {
	Places
	maker Maker
	sizes []int
	room  int
}

// nodes meets cs, the first of which has that number.
func (w *walker) nodes(cs []api.Core, number int) {
	for _, c := range cs {
		w.node(c, number)
		number += w.sizes[number]
	}
}

func (w *walker) node(c api.Core, number int) {
	switch c.Kind {
	case api.CText:
		w.enter()
		w.maker.Text(number, w.text(c.Parts))
	case api.CElem:
		w.enter()
		w.maker.Element(number, c.Tag, w.attrs(c.Fields), func() { w.nodes(c.Kids, number+1) })
	case api.CIf:
		w.choose(c, number)
	case api.CFor:
		w.loop(c, number)
	case api.CWith:
		w.with(c, number)
	}
}

// enter is asked ahead of all else of a node of the forest.
func (w *walker) enter() {
	if w.room == 0 {
		panic(api.ErrRenderLarge)
	}
	w.room--
}

func (w *walker) text(parts []api.Part) string {
	var out strings.Builder
	for _, part := range parts {
		piece := part.Plain
		if part.Bound {
			piece = textOf(w.value(part.Expr))
		}
		if out.Len()+len(piece) > api.MaxStr {
			panic(api.ErrEvalLong)
		}
		out.WriteString(piece)
	}
	return out.String()
}

func (w *walker) attrs(fields []api.Field) []api.Attr {
	var out []api.Attr
	for _, field := range fields {
		if content, ok := w.attr(field); ok {
			out = append(out, api.Attr{Name: field.Name, Value: content})
		}
	}
	return out
}

// attr is what a field comes to, and whether it is an attribute at all.
func (w *walker) attr(field api.Field) (string, bool) {
	if !field.Bound {
		return field.Plain, true
	}
	v := w.value(field.Expr)
	switch v.Kind {
	case api.KNull:
		return "", false
	case api.KBool:
		return "", v.Bool
	}
	return textOf(v), true
}

// choose goes past the numbers of the kids, if it is the else that is met.
func (w *walker) choose(c api.Core, number int) {
	number++
	if w.truth(c.Exprs[0]) {
		w.nodes(c.Kids, number)
		return
	}
	for range c.Kids {
		number += w.sizes[number]
	}
	w.nodes(c.Else, number)
}

func (w *walker) loop(c api.Core, number int) {
	list := w.list(c.Exprs[0])
	w.maker.Loop(number, w.keys(list, c.Exprs[1]), func(i int) {
		w.push(list[i], whole(i))
		w.nodes(c.Kids, number+1)
		w.drop(2)
	})
}

// keys throws, if an element of a list has no key, or the key of one ahead of it.
func (w *walker) keys(list []api.Value, e api.Expr) []api.Key {
	var out []api.Key
	met := make(map[api.Key]int, len(list))
	for i, element := range list {
		w.push(element, whole(i))
		key := w.key(e)
		w.drop(2)
		if _, twice := met[key]; twice {
			panic(api.ErrRenderKey)
		}
		met[key] = i
		out = append(out, key)
	}
	return out
}

// with puts each value on the stack as soon as it is known: no expression of c asks for the place of one ahead of it, as core.Check bounds the places.
func (w *walker) with(c api.Core, number int) {
	for _, e := range c.Exprs {
		w.push(w.value(e))
	}
	w.nodes(c.Kids, number+1)
	w.drop(len(c.Exprs))
}

func whole(i int) api.Value {
	return api.Value{Kind: api.KInt, Int: i}
}
