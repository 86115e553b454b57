package render

import (
	"strings"

	"stencil/api"
)

// walker goes through a core, with the stack that each node has; it has room for so many nodes of the forest more.
type walker struct {
	places
	room int
}

// nodes is a forest with what cs make behind it.
func (w *walker) nodes(fs []api.Tree, cs []api.Core) []api.Tree {
	for _, c := range cs {
		fs = w.node(fs, c)
	}
	return fs
}

func (w *walker) node(fs []api.Tree, c api.Core) []api.Tree {
	switch c.Kind {
	case api.CText:
		return append(fs, w.text(c))
	case api.CElem:
		return append(fs, w.element(c))
	case api.CIf:
		if w.truth(c.Exprs[0]) {
			return w.nodes(fs, c.Kids)
		}
		return w.nodes(fs, c.Else)
	case api.CFor:
		return w.loop(fs, c)
	}
	return w.with(fs, c)
}

// enter is asked ahead of all else of a node of the forest.
func (w *walker) enter() {
	if w.room == 0 {
		panic(api.ErrRenderLarge)
	}
	w.room--
}

func (w *walker) text(c api.Core) api.Tree {
	w.enter()
	var out strings.Builder
	for _, part := range c.Parts {
		piece := part.Plain
		if part.Bound {
			piece = textOf(w.value(part.Expr))
		}
		if out.Len()+len(piece) > api.MaxStr {
			panic(api.ErrEvalLong)
		}
		out.WriteString(piece)
	}
	return api.Tree{Text: out.String()}
}

func (w *walker) element(c api.Core) api.Tree {
	w.enter()
	tree := api.Tree{Tag: c.Tag}
	for _, field := range c.Fields {
		if content, ok := w.attr(field); ok {
			tree.Attrs = append(tree.Attrs, api.Attr{Name: field.Name, Value: content})
		}
	}
	tree.Kids = w.nodes(nil, c.Kids)
	return tree
}

// attr is what a field comes to, and whether it is an attribute at all.
func (w *walker) attr(field api.Field) (string, bool) {
	if !field.Bound {
		return field.Plain, true
	}
	v := w.value(field.Expr)
	switch v.Kind {
	case api.KNull:
		return "", false
	case api.KBool:
		return "", v.Bool
	}
	return textOf(v), true
}

func (w *walker) loop(fs []api.Tree, c api.Core) []api.Tree {
	list := w.list(c.Exprs[0])
	w.askKeys(list, c.Exprs[1])
	for i, element := range list {
		w.push(element, number(i))
		fs = w.nodes(fs, c.Kids)
		w.drop(2)
	}
	return fs
}

// askKeys throws, if an element of a list has no key, or the key of one ahead of it.
func (w *walker) askKeys(list []api.Value, e api.Expr) {
	met := make(map[api.Key]int, len(list))
	for i, element := range list {
		w.push(element, number(i))
		key := w.key(e)
		w.drop(2)
		if _, twice := met[key]; twice {
			panic(api.ErrRenderKey)
		}
		met[key] = i
	}
}

// with puts each value on the stack as soon as it is known: no expression of c asks for the place of one ahead of it, as core.Check bounds the places.
func (w *walker) with(fs []api.Tree, c api.Core) []api.Tree {
	for _, e := range c.Exprs {
		w.push(w.value(e))
	}
	fs = w.nodes(fs, c.Kids)
	w.drop(len(c.Exprs))
	return fs
}

func number(i int) api.Value {
	return api.Value{Kind: api.KInt, Int: i}
}
