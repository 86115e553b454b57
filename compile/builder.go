package compile

import "stencil/api"

// builder gathers a program; each method that adds something hands out its number.
type builder struct {
	api.Program
	// numbers are those of the texts: each stands in the program once.
	numbers map[string]int
	// flags tells that updates look at nothing that is the same in every state.
	flags bool
}

func (b *builder) text(s string) int {
	number, stands := b.numbers[s]
	if !stands {
		number = len(b.Texts)
		b.numbers[s] = number
		b.Texts = append(b.Texts, s)
	}
	return number
}

func (b *builder) code(insts []api.Inst) int {
	b.Codes = append(b.Codes, insts)
	return len(b.Codes) - 1
}

func (b *builder) static(tree api.Tree) int {
	b.Statics = append(b.Statics, tree)
	return len(b.Statics) - 1
}

// block adds a block of what fill puts into it. Its number is taken ahead of that, since the blocks that belong to it must have greater ones.
func (b *builder) block(depth int, fill func(put func(op api.Op))) int {
	number := len(b.Blocks)
	b.Blocks = append(b.Blocks, api.Block{})
	var ops []api.Op
	fill(func(op api.Op) { ops = append(ops, op) })
	b.Blocks[number] = api.Block{Depth: depth, Ops: ops, Update: b.update(ops)}
	return number
}

// update is the places of the operations that an update looks at.
func (b *builder) update(ops []api.Op) []int {
	var out []int
	for place, op := range ops {
		if !b.flags || mayChange(op) {
			out = append(out, place)
		}
	}
	return out
}

// mayChange tells whether what an operation makes hangs on the state.
func mayChange(op api.Op) bool {
	switch op.Kind {
	case api.OpTextX, api.OpAttrX, api.OpIf, api.OpFor, api.OpWith:
		return true
	}
	return false
}
