package core

import (
	"stencil/api"
	"stencil/pieces"
	"stencil/shape"
)

// asker asks node by node whether they may be; it has room for so many pieces more, and goes no further, so that nodes that lie in one another many times over end it too.
type asker struct {
	room int
}

func (a *asker) nodes(cs []api.Core, out around) api.Errno {
	for _, c := range cs {
		if code := a.node(c, out); code != api.OK {
			return code
		}
	}
	return api.OK
}

func (a *asker) node(c api.Core, out around) api.Errno {
	a.room = pieces.Left(a.room, c)
	if a.room < 0 {
		return api.ErrCoreLarge
	}
	in, fits := out.enter(c)
	switch {
	case in.isTooDeep():
		return api.ErrCoreDeep
	case !fits:
		return api.ErrCoreForm
	case !areResolved(c):
		return api.ErrCoreExpr
	case !arePlaced(c, out, in):
		return api.ErrCoreName
	}
	if code := a.nodes(c.Kids, in); code != api.OK {
		return code
	}
	return a.nodes(c.Else, in)
}

// areResolved tells whether the expressions of c may be, whatever the places of their variables.
func areResolved(c api.Core) bool {
	for e := range pieces.Exprs(c) {
		if !shape.Resolved(e) {
			return false
		}
	}
	return true
}

// arePlaced tells whether the expressions of c ask places of the stack alone: those that lie around it, and the key of a for those that lie in it.
func arePlaced(c api.Core, out, in around) bool {
	if c.Kind == api.CFor {
		return out.has(c.Exprs[0]) && in.has(c.Exprs[1])
	}
	for e := range pieces.Exprs(c) {
		if !out.has(e) {
			return false
		}
	}
	return true
}
