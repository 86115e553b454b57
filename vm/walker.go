package vm

import (
	"stencil/api"
	"stencil/reckon"
	"stencil/walk"
)

// walker runs blocks with a state, and gathers a plan meanwhile. What it meets wrong it throws.
type walker struct {
	*program
	walk.Places
	plan
	// row is that of the innermost open element, or the root's.
	row *row
}

// evaluate runs block 0 with the state v, as an update of old, unless that is nil; or it tells the first error that is met on the way.
func evaluate(p *program, old *instance, v api.Value) (out plan, code api.Errno) {
	defer func() {
		if thrown, ok := recover().(api.Errno); ok {
			out, code = plan{}, thrown
		}
	}()
	top := &row{parent: &node{handle: root}}
	w := walker{program: p, Places: walk.Places{v}, row: top}
	// A machine that New did not make has no block.
	if len(p.Blocks) > 0 {
		w.whole = w.run(0, old)
	}
	w.finish(top)
	return w.plan, api.OK
}

// run runs a block, as an update of old, or for a new instance, if that is nil, and answers what it leaves.
func (w *walker) run(number int, old *instance) *instance {
	b := body{walker: w, ops: w.Blocks[number].Ops, listed: w.listed[number], old: old, now: instance{block: number}}
	b.now.piece = w.piece(func() {
		for place, op := range b.ops {
			b.do(place, op)
		}
	})
	return w.kept(b.now)
}

// piece is what is set into the row by a call that leaves no element open.
func (w *walker) piece(set func()) piece {
	count, tops := w.count, len(w.row.nodes)
	set()
	return piece{count: w.count - count, tops: w.row.nodes[tops:]}
}

// enter is asked ahead of all else of so many nodes.
func (w *walker) enter(nodes int) {
	w.count += nodes
	if w.count > api.MaxNodes {
		panic(api.ErrVmLarge)
	}
}

// leave leaves a part as it is.
func (w *walker) leave(p piece) {
	w.enter(p.count)
	w.row.nodes = append(w.row.nodes, p.tops...)
}

// come hands on what the last node of the row is, which is a new one.
func (w *walker) come(tree api.Tree) {
	if w.row.fresh {
		w.row.tree.Kids = append(w.row.tree.Kids, tree)
		return
	}
	w.trees = append(w.trees, tree)
	w.row.steps = append(w.row.steps, step{at: len(w.row.nodes) - 1})
}

// finish plans the steps of a row that is whole.
func (w *walker) finish(r *row) {
	if len(r.steps) > 0 {
		w.rows = append(w.rows, r)
	}
}

// value asks neither whether the code nor whether what lies on the stack may be: verify.Verify and value.Check did, and what comes of such may be too.
func (w *walker) value(code int) api.Value {
	v, fault := reckon.Code(w.Codes[code], w.Texts, w.Places)
	if fault != api.OK {
		panic(fault)
	}
	return v
}
