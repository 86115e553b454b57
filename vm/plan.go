package vm

import (
	"slices"

	"stencil/api"
	"stencil/attrs"
	"stencil/dom"
)

const (
	// root is the handle that holds what is shown.
	root = 0
	// none stands for the end of a row.
	none = -1
)

// plan is what a step will do, and what stands then. The arena can refuse nothing of it.
type plan struct {
	// whole is what block 0 will have left, count how many nodes there will be.
	whole *instance
	count int
	// gone are the topmost nodes that go, in the row in which they stand; trees are the topmost that come.
	gone  []*node
	trees []api.Tree
	// made are all nodes that come, in preorder, but for what is in statics; coming is how many come with these.
	made   []made
	coming int
	// rows are those into which a node comes, or in which one moves.
	rows []*row
	sets []set
}

// made is a node that comes, with how many come ahead of it.
type made struct {
	*node
	ahead int
}

// set is what a node that stays has from now on.
type set struct {
	*node
	text  string
	attrs []api.Attr
}

// row is the kids of an element, or of the root, as they will stand.
type row struct {
	// parent is the element, around the row in which that stands.
	parent *node
	around *row
	// tree is what the element is, if it is fresh: one that comes, with all that is in it.
	fresh bool
	tree  api.Tree
	nodes []*node
	// steps bring the row of an element that stays from what it was to what it will be.
	steps []step
}

// step is what becomes of the node at that place in its row: it moves there, or else comes there.
type step struct {
	at    int
	moves bool
}

// set plans what a node has from now on, if that is not what it has.
func (p *plan) set(n *node, text string, attrs []api.Attr) {
	if n.text != text || !slices.Equal(n.attrs, attrs) {
		p.sets = append(p.sets, set{n, text, attrs})
	}
}

// commit does all that was planned.
func (p *plan) commit(arena *dom.Dom) {
	for _, top := range p.gone {
		arena.Remove(top.handle)
	}
	p.giveHandles(arena)
	for _, tree := range p.trees {
		arena.Build(tree)
	}
	for _, r := range p.rows {
		r.arrange(arena)
	}
	for _, s := range p.sets {
		s.do(arena)
	}
}

// giveHandles tells the nodes that come where they will be built: one behind the other in the handles that are free.
func (p *plan) giveHandles(arena *dom.Dom) {
	if len(p.made) == 0 {
		return
	}
	free := arena.Free()
	for _, m := range p.made {
		m.handle = free[m.ahead]
	}
}

// arrange does the steps of a row from the last one on: so what each must stand ahead of stands already.
func (r *row) arrange(arena *dom.Dom) {
	for _, s := range slices.Backward(r.steps) {
		before := none
		if s.at+1 < len(r.nodes) {
			before = r.nodes[s.at+1].handle
		}
		if s.moves {
			arena.Move(r.nodes[s.at].handle, before)
		} else {
			arena.Place(r.parent.handle, r.nodes[s.at].handle, before)
		}
	}
}

func (s set) do(arena *dom.Dom) {
	if s.node.text != s.text {
		arena.SetText(s.handle, s.text)
	}
	attrs.Set(arena, s.handle, s.node.attrs, s.attrs)
	s.node.text, s.node.attrs = s.text, s.attrs
}
