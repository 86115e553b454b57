package vm

import (
	"slices"

	"stencil/api"
	"stencil/forest"
)

// program is one that may be run, with what would else be asked of it again at each step.
type program struct {
	api.Program
	// sizes is, of each static, how many nodes it has.
	sizes []int
	// listed is, of each block, which of its operations an update looks at.
	listed [][]bool
	// nothing is what an OpIf leaves where no block stands, noItems what an OpFor leaves where there is no element, and bare, of each block, what it leaves where all that is in it leaves no more than these. There may be millions of each, so all are one.
	nothing *instance
	noItems *loop
	bare    []*instance
}

func newProgram(p api.Program) program {
	out := program{Program: p, nothing: &instance{}, noItems: &loop{}, bare: make([]*instance, len(p.Blocks))}
	for _, tree := range p.Statics {
		out.sizes = append(out.sizes, forest.Count([]api.Tree{tree}))
	}
	for _, block := range p.Blocks {
		listed := make([]bool, len(block.Ops))
		for _, place := range block.Update {
			listed[place] = true
		}
		out.listed = append(out.listed, listed)
	}
	// The blocks that belong to one stand behind it.
	for number, block := range slices.Backward(p.Blocks) {
		out.bare[number] = out.newBare(number, block.Ops)
	}
	return out
}

func (p *program) newBare(number int, ops []api.Op) *instance {
	out := &instance{block: number}
	for _, op := range ops {
		switch op.Kind {
		case api.OpIf:
			out.inner = append(out.inner, p.nothing)
		case api.OpWith:
			out.inner = append(out.inner, p.bare[op.C])
		case api.OpFor:
			out.loops = append(out.loops, p.noItems)
		}
	}
	return out
}

// kept is what is kept of an instance. Where there is no node there is no element of a list either.
func (p *program) kept(now instance) *instance {
	bare := p.bare[now.block]
	if now.count == 0 && slices.Equal(now.inner, bare.inner) {
		return bare
	}
	// A copy, so that one which is not kept is never laid on the heap.
	out := now
	return &out
}
