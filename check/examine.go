package check

import "stencil/api"

// branch is a node that may be and that comes to a core node.
type branch struct {
	node *api.Node
	kids []branch
	// other is what stands where an if's test is false.
	other []branch
	// use is nil of all that is no use.
	use *use
}

// around is what lies around nodes of the template.
type around struct {
	// scope tells which names are bound; to which places does not count yet.
	scope *scope
	// def is the one that the nodes lie in; nil: they lie in the body.
	def *component
	// use is the one that the nodes lie directly in, or nil.
	use *use
	// head says that the nodes are the template's defs and what stands between them.
	head bool
}

// mayAsk tells whether an expression may stand where those names are bound: in the body each may.
func (a around) mayAsk(e api.Expr, names *scope) bool {
	return a.def == nil || names.binds(e)
}

// inner is what lies around the kids of an element that binds nothing.
func (a around) inner() around {
	return around{scope: a.scope, def: a.def}
}

// examiner goes through a template's nodes in preorder, up to the first fault.
type examiner struct {
	laws map[string]func(element) law
	// named counts all the template's defs by their names.
	named map[string]int
	// defs are those that stand ahead.
	defs map[string]*component
}

// examine is what comes of the body, or the first fault of the template.
func examine(ns []api.Node) ([]branch, fault) {
	x := &examiner{named: map[string]int{}, defs: map[string]*component{}}
	x.laws = x.table()
	head := ns[:headLength(ns)]
	for i := range head {
		x.named[plainOf(&head[i], "name")]++
	}
	if _, f := x.nodes(head, around{head: true}); f.met() {
		return nil, f
	}
	return x.nodes(ns[len(head):], around{})
}

// headLength is how many nodes stand ahead of the body.
func headLength(ns []api.Node) int {
	length := 0
	for i, n := range ns {
		if n.Tag == "def" {
			length = i + 1
		} else if isSolid(n) {
			break
		}
	}
	return length
}

func (x *examiner) nodes(ns []api.Node, a around) ([]branch, fault) {
	var out []branch
	var ahead *api.Node
	for i := range ns {
		n := &ns[i]
		var f fault
		if n.Kind == api.NText {
			out, f = x.text(n, a, out)
		} else {
			out, f = x.element(element{n, a, ahead}, out)
		}
		if f.met() {
			return nil, f
		}
		if isSolid(*n) {
			ahead = n
		}
	}
	return out, fault{}
}

func (x *examiner) text(n *api.Node, a around, out []branch) ([]branch, fault) {
	for _, part := range n.Parts {
		if part.Bound && !a.mayAsk(part.Expr, a.scope) {
			return nil, fault{api.ErrCheckName, n.At}
		}
	}
	return append(out, branch{node: n}), fault{}
}

func (x *examiner) element(e element, out []branch) ([]branch, fault) {
	l := x.law(e)
	if f := l.fault(e); f.met() {
		return nil, f
	}
	kids, f := x.nodes(e.Kids, l.inside)
	if f.met() {
		return nil, f
	}
	if l.join == nil {
		return append(out, branch{node: e.Node, kids: kids}), fault{}
	}
	return l.join(out, kids), fault{}
}

func (x *examiner) law(e element) law {
	if tell, special := x.laws[e.Tag]; special {
		return tell(e)
	}
	if def := x.defs[e.Tag]; def != nil {
		return useLaw(e, def)
	}
	return x.plainLaw(e)
}

func (x *examiner) isSpecial(tag string) bool {
	_, special := x.laws[tag]
	return special
}
