package check

import (
	"cmp"
	"slices"
	"strings"

	"stencil/api"
	"stencil/pieces"
)

// frame is what lies around branches where they are resolved.
type frame struct {
	scope *scope
	// filled is what the slots stand for; nil in the body, which has none.
	filled *filling
	// stack is how many values lie there.
	stack int
	// depth and loops are how many elements and fors lie around.
	depth, loops int
}

// filling is what a use fills in, with what lies around the use: there its names are bound.
type filling struct {
	fills  map[string]fill
	around frame
}

// resolver makes core nodes of branches. Behind the first fault it makes nothing more, and what it made counts for nothing.
type resolver struct {
	room int
	met  fault
}

func (r *resolver) nodes(bs []branch, f frame) []api.Core {
	var out []api.Core
	for _, b := range bs {
		if r.met.met() {
			return nil
		}
		out = append(out, r.node(b, f))
	}
	return out
}

func (r *resolver) node(b branch, f frame) api.Core {
	if b.use != nil {
		return r.use(b, f)
	}
	switch b.node.Tag {
	case "": // of texts alone
		return r.text(b, f)
	case "if":
		return r.condition(b, f)
	case "for":
		return r.loop(b, f)
	case "slot":
		return r.slot(b, f)
	}
	return r.element(b, f)
}

// enter asks whether there is room for a node, which has no kids yet, and tells what lies around those.
func (r *resolver) enter(n *api.Node, c api.Core, f frame) frame {
	switch c.Kind {
	case api.CElem:
		f.depth++
	case api.CFor:
		f.loops++
		f.stack += 2
	case api.CWith:
		f.stack += len(c.Exprs)
	}
	r.room = pieces.Left(r.room, c)
	switch {
	case r.room < 0:
		r.met = fault{api.ErrCheckLarge, n.At}
	case f.stack > api.MaxStack || f.depth > 2*api.MaxNest-1:
		r.met = fault{api.ErrCheckDeep, n.At}
	case f.loops > api.MaxLoops:
		r.met = fault{api.ErrCheckLoops, n.At}
	}
	return f
}

func (r *resolver) text(b branch, f frame) api.Core {
	c := api.Core{Kind: api.CText}
	for _, part := range b.node.Parts {
		c.Parts = append(c.Parts, f.scope.part(part))
	}
	r.enter(b.node, c, f)
	return c
}

func (r *resolver) element(b branch, f frame) api.Core {
	c := api.Core{Kind: api.CElem, Tag: strings.Clone(b.node.Tag)}
	for _, field := range b.node.Fields {
		c.Fields = append(c.Fields, f.scope.field(field))
	}
	slices.SortFunc(c.Fields, func(a, b api.Field) int { return cmp.Compare(a.Name, b.Name) })
	c.Kids = r.nodes(b.kids, r.enter(b.node, c, f))
	return c
}

func (r *resolver) condition(b branch, f frame) api.Core {
	c := api.Core{Kind: api.CIf, Exprs: []api.Expr{f.scope.value(fieldOf(b.node, "test"))}}
	inner := r.enter(b.node, c, f)
	c.Kids = r.nodes(b.kids, inner)
	c.Else = r.nodes(b.other, inner)
	return c
}

func (r *resolver) loop(b branch, f frame) api.Core {
	names := f.scope.with(f.stack, plainOf(b.node, "each"), plainOf(b.node, "at"))
	list, key := fieldOf(b.node, "in"), fieldOf(b.node, "key")
	c := api.Core{Kind: api.CFor, Exprs: []api.Expr{f.scope.value(list), names.value(key)}}
	inner := r.enter(b.node, c, f)
	inner.scope = names
	c.Kids = r.nodes(b.kids, inner)
	return c
}

func (r *resolver) use(b branch, f frame) api.Core {
	def := b.use.def
	c := api.Core{Kind: api.CWith}
	for _, prop := range def.props {
		c.Exprs = append(c.Exprs, f.scope.value(fieldOf(b.node, prop)))
	}
	inner := r.enter(b.node, c, f)
	var none *scope
	inner.scope = none.with(f.stack, def.props...)
	inner.filled = &filling{fills: b.use.fills, around: f}
	c.Kids = r.nodes(def.kids, inner)
	return c
}

func (r *resolver) slot(b branch, f frame) api.Core {
	c := api.Core{Kind: api.CWith}
	places := map[string]int{}
	for _, field := range b.node.Fields {
		if field.Bound {
			places[field.Name] = f.stack + len(c.Exprs)
			c.Exprs = append(c.Exprs, f.scope.value(field))
		}
	}
	inner := r.enter(b.node, c, f)
	kids := b.kids
	if in, filled := f.filled.fills[plainOf(b.node, "name")]; filled {
		kids = in.kids
		inner.scope, inner.filled = f.filled.around.scope, f.filled.around.filled
		for _, word := range in.let {
			inner.scope = inner.scope.with(places[word], word)
		}
	}
	c.Kids = r.nodes(kids, inner)
	return c
}
