package vm

import (
	"slices"
	"strings"

	"stencil/api"
	"stencil/walk"
)

// body is a block that is run, as an update of old, or for a new instance, if that is nil. Each operation leaves what it makes behind what those ahead have left now; at that place of the old instance stands what it made there.
type body struct {
	*walker
	ops    []api.Op
	listed []bool
	old    *instance
	now    instance
}

func (b *body) do(place int, op api.Op) {
	switch op.Kind {
	case api.OpText:
		b.enter(1)
		b.stand(api.Tree{Text: b.Texts[op.A]}, 1)
	case api.OpTextX:
		b.enter(1)
		b.text(place, op)
	case api.OpOpen:
		b.enter(1)
		b.open(place, op)
	case api.OpClose:
		b.close()
	case api.OpStatic:
		b.enter(b.sizes[op.A])
		b.stand(b.Statics[op.A], b.sizes[op.A])
	case api.OpIf, api.OpWith:
		b.now.inner = append(b.now.inner, b.inner(place, op))
	case api.OpFor:
		b.now.loops = append(b.now.loops, b.loop(place, op))
	case api.OpLet:
		b.Push(b.value(op.A))
	case api.OpDrop:
		b.Drop(op.A)
	}
}

// looks tells whether what an operation makes is evaluated, or else left as it is.
func (b *body) looks(place int) bool {
	return b.old == nil || b.listed[place]
}

// stand sets a node that no operation goes into.
func (b *body) stand(tree api.Tree, size int) *node {
	n := b.node(tree, size)
	if b.old == nil {
		b.come(tree)
	}
	return n
}

// node sets into the row the node that stands already, or a new one, which comes with so many.
func (b *body) node(tree api.Tree, size int) *node {
	n := &node{text: tree.Text, attrs: tree.Attrs}
	if b.old == nil {
		b.made = append(b.made, made{n, b.coming})
		b.coming += size
	} else {
		n = b.stood()
	}
	b.now.nodes = append(b.now.nodes, n)
	b.row.nodes = append(b.row.nodes, n)
	return n
}

// stood is the node that the next operation made.
func (b *body) stood() *node {
	return b.old.nodes[len(b.now.nodes)]
}

func (b *body) text(place int, op api.Op) {
	if !b.looks(place) {
		b.stand(api.Tree{}, 1)
		return
	}
	text := walk.Text(b.value(op.A))
	b.set(b.stand(api.Tree{Text: text}, 1), text, nil)
}

// open goes into an element, with all its attributes: their operations stand right behind it.
func (b *body) open(place int, op api.Op) {
	tree := api.Tree{Tag: b.Texts[op.A], Attrs: b.attrs(place)}
	n := b.node(tree, 1)
	b.set(n, "", tree.Attrs)
	b.row = &row{parent: n, around: b.row, fresh: b.old == nil, tree: tree}
}

// close goes out of the innermost open element.
func (b *body) close() {
	inner := b.row
	b.row = inner.around
	if inner.fresh {
		b.come(inner.tree)
	} else {
		b.finish(inner)
	}
}

// attrs are those of the element that begins at that place.
func (b *body) attrs(place int) []api.Attr {
	var out []api.Attr
	for at := place + 1; b.ops[at].Kind == api.OpAttr || b.ops[at].Kind == api.OpAttrX; at++ {
		op := b.ops[at]
		if content, ok := b.attr(at, op); ok {
			out = append(out, api.Attr{Name: b.Texts[op.A], Value: content})
		}
	}
	return out
}

// attr is what an attribute is from now on, and whether it is one at all.
func (b *body) attr(place int, op api.Op) (string, bool) {
	switch {
	case op.Kind == api.OpAttr:
		return b.Texts[op.B], true
	case b.looks(place):
		return walk.Attr(b.value(op.B))
	}
	stood := b.stood().attrs
	at, found := slices.BinarySearchFunc(stood, b.Texts[op.A], func(attr api.Attr, name string) int {
		return strings.Compare(attr.Name, name)
	})
	if !found {
		return "", false
	}
	return stood[at].Value, true
}

// inner is what an OpIf or an OpWith leaves.
func (b *body) inner(place int, op api.Op) *instance {
	var old *instance
	if b.old != nil {
		old = b.old.inner[len(b.now.inner)]
	}
	switch {
	case !b.looks(place):
		b.leave(old.piece)
		return old
	case op.Kind == api.OpIf:
		return b.choose(op, old)
	}
	return b.with(op, old)
}

func (b *body) choose(op api.Op, old *instance) *instance {
	block := op.C
	if walk.Truth(b.value(op.A)) {
		block = op.B
	}
	if old != nil && old.block != block {
		b.gone = append(b.gone, old.tops...)
		old = nil
	}
	if block == 0 {
		return b.nothing
	}
	return b.run(block, old)
}

// with puts each value on the stack as soon as it is known: no code of op asks for the place of one ahead of it, as verify.Verify bounds the places.
func (b *body) with(op api.Op, old *instance) *instance {
	for _, code := range op.List {
		b.Push(b.value(code))
	}
	now := b.run(op.C, old)
	b.Drop(len(op.List))
	return now
}
