// Package fresh copies what is handed on, so that no answer shares memory with an argument or with another answer, and nothing is kept of what was handed in.
package fresh

import (
	"slices"

	"stencil/api"
)

// Value is a copy of v and of all that lies in it.
func Value(v api.Value) api.Value {
	v.Names = slices.Clone(v.Names)
	v.List = list(v.List, Value)
	return v
}

// Cores is a copy of cs and of all that lies in them.
func Cores(cs []api.Core) []api.Core {
	return list(cs, node)
}

func node(c api.Core) api.Core {
	c.Fields = list(c.Fields, field)
	c.Parts = list(c.Parts, part)
	c.Exprs = list(c.Exprs, expression)
	c.Kids, c.Else = Cores(c.Kids), Cores(c.Else)
	return c
}

// Program is a copy of p and of all that lies in it.
func Program(p api.Program) api.Program {
	p.Texts = slices.Clone(p.Texts)
	p.Codes = list(p.Codes, slices.Clone[[]api.Inst])
	p.Statics = list(p.Statics, tree)
	p.Blocks = list(p.Blocks, block)
	return p
}

func tree(t api.Tree) api.Tree {
	t.Attrs = slices.Clone(t.Attrs)
	t.Kids = list(t.Kids, tree)
	return t
}

func block(b api.Block) api.Block {
	b.Ops = list(b.Ops, operation)
	b.Update = slices.Clone(b.Update)
	return b
}

func operation(o api.Op) api.Op {
	o.List = slices.Clone(o.List)
	return o
}

func field(f api.Field) api.Field {
	f.Expr = expression(f.Expr)
	return f
}

func part(p api.Part) api.Part {
	p.Expr = expression(p.Expr)
	return p
}

func expression(e api.Expr) api.Expr {
	e.Kids = list(e.Kids, expression)
	return e
}

// list is a list of copies.
func list[T any](olds []T, copied func(T) T) []T {
	news := slices.Clone(olds)
	for i, old := range news {
		news[i] = copied(old)
	}
	return news
}
