package verify

import (
	"stencil/api"
	"stencil/forest"
	"stencil/utf"
)

// program is what operations name by numbers. Codes and statics are gone through once, not at each operation that names them.
type program struct {
	texts []string
	// needs is, of each code, how many values must lie on the stack: it was checked with as many as may, so that only its places are left to ask.
	needs []int
	// depths is, of each static, how many nodes at most lie in one another.
	depths []int
	// homes is, of each block, what is around it, as soon as an operation is met that it belongs to.
	homes []around
}

// around is what is around a block, or around an operation of one.
type around struct {
	// owned tells that there is an operation that the block belongs to, looped that this is an OpFor.
	owned, looped bool
	// stack is how many values lie on the stack; elements and loops are how many lie around, in the blocks around too.
	stack, elements, loops int
}

// newProgram is what operations name, if no code and no static is wrong.
func newProgram(p api.Program) *program {
	all := &program{texts: p.Texts, homes: make([]around, len(p.Blocks))}
	for _, insts := range p.Codes {
		all.needs = append(all.needs, need(insts))
	}
	for _, tree := range p.Statics {
		all.depths = append(all.depths, forest.Depth([]api.Tree{tree}))
	}
	all.homes[0] = around{owned: true, stack: 1}
	return all
}

// need is 1 more than the highest place of the stack that is asked for.
func need(insts []api.Inst) int {
	most := 0
	for _, inst := range insts {
		if inst.Op == api.IVar {
			most = max(most, inst.A+1)
		}
	}
	return most
}

func (p *program) isText(number int) bool {
	return 0 <= number && number < len(p.texts)
}

func (p *program) isTag(number int) bool {
	return p.isText(number) && utf.Tag(p.texts[number])
}

func (p *program) isCode(number int) bool {
	return 0 <= number && number < len(p.needs)
}

func (p *program) isStatic(number int) bool {
	return 0 <= number && number < len(p.depths)
}
