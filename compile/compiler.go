package compile

import (
	"slices"

	"stencil/api"
)

// loopValues is how many values a loop puts on the stack: an element and its number.
const loopValues = 2

// compiler goes through a core in preorder, and adds to the program what its nodes make.
type compiler struct {
	builder
	inline bool
	// number is that of the next node; statics are the numbers of the elements that are hoisted.
	number  int
	statics []int
}

// inner adds a block of what cs make with so many values on the stack.
func (c *compiler) inner(cs []api.Core, depth int) int {
	return c.block(depth, func(put func(op api.Op)) { c.nodes(cs, depth, put) })
}

// branch is like inner, but 0, for no block, if there is nothing in it.
func (c *compiler) branch(cs []api.Core, depth int) int {
	if len(cs) == 0 {
		return 0
	}
	return c.inner(cs, depth)
}

func (c *compiler) nodes(cs []api.Core, depth int, put func(op api.Op)) {
	for _, n := range cs {
		c.node(n, depth, put)
	}
}

func (c *compiler) node(n api.Core, depth int, put func(op api.Op)) {
	if _, hoisted := slices.BinarySearch(c.statics, c.number); hoisted {
		put(api.Op{Kind: api.OpStatic, A: c.static(c.tree(n))})
		return
	}
	c.number++
	switch n.Kind {
	case api.CText:
		put(c.content(n.Parts))
	case api.CElem:
		c.element(n, depth, put)
	case api.CIf:
		test := c.expression(n.Exprs[0])
		kids := c.branch(n.Kids, depth)
		put(api.Op{Kind: api.OpIf, A: test, B: kids, C: c.branch(n.Else, depth)})
	case api.CFor:
		list, key := c.expression(n.Exprs[0]), c.expression(n.Exprs[1])
		put(api.Op{Kind: api.OpFor, A: list, B: key, C: c.inner(n.Kids, depth+loopValues)})
	case api.CWith:
		c.with(n, depth, put)
	}
}

// tree is what a static element, or what lies in one, comes to in every state.
func (c *compiler) tree(n api.Core) api.Tree {
	c.number++
	if n.Kind == api.CText {
		// No two plain parts stand side by side, so there is just one.
		return api.Tree{Text: n.Parts[0].Plain}
	}
	out := api.Tree{Tag: n.Tag}
	for _, field := range n.Fields {
		out.Attrs = append(out.Attrs, api.Attr{Name: field.Name, Value: field.Plain})
	}
	for _, kid := range n.Kids {
		out.Kids = append(out.Kids, c.tree(kid))
	}
	return out
}

func (c *compiler) element(n api.Core, depth int, put func(op api.Op)) {
	put(api.Op{Kind: api.OpOpen, A: c.text(n.Tag)})
	for _, field := range n.Fields {
		name := c.text(field.Name)
		if field.Bound {
			put(api.Op{Kind: api.OpAttrX, A: name, B: c.expression(field.Expr)})
		} else {
			put(api.Op{Kind: api.OpAttr, A: name, B: c.text(field.Plain)})
		}
	}
	c.nodes(n.Kids, depth, put)
	put(api.Op{Kind: api.OpClose})
}

// with lays its values on the stack ahead of a block, or of its kids right here. It may do so one by one, since no expression asks for the place of one ahead of it.
func (c *compiler) with(n api.Core, depth int, put func(op api.Op)) {
	var codes []int
	for _, e := range n.Exprs {
		codes = append(codes, c.expression(e))
	}
	depth += len(codes)
	if !c.inline {
		put(api.Op{Kind: api.OpWith, List: codes, C: c.inner(n.Kids, depth)})
		return
	}
	for _, code := range codes {
		put(api.Op{Kind: api.OpLet, A: code})
	}
	c.nodes(n.Kids, depth, put)
	// There is no OpDrop of nothing.
	if len(codes) > 0 {
		put(api.Op{Kind: api.OpDrop, A: len(codes)})
	}
}
