package verify

import (
	"slices"

	"stencil/api"
)

// maxDeep is how deep a node may lie, maxOpen how deep an OpOpen's element may, so that it has room for a text; the outermost ones lie 1 deep.
const (
	maxDeep = 2 * api.MaxNest
	maxOpen = maxDeep - 1
)

// loopValues is how many values an OpFor puts on the stack.
const loopValues = 2

// body is a block that is gone through. What is around it was handed to it, and goes along: it is what is around the next operation.
type body struct {
	*program
	around
	number int
	ops    []api.Op
	// lets is how many OpLets are not dropped since the innermost open element began, outer the same of what is around each open element.
	lets  int
	outer []int
	// closed is the place where the first of the outermost elements ended.
	closed int
}

// blockFault tells the place and the error of the first fault of the block.
func (b *body) blockFault(block api.Block) (int, api.Errno) {
	switch {
	case !b.owned:
		return 0, api.ErrVerifyBlock
	case block.Depth != b.stack:
		return 0, api.ErrVerifyDepth
	}
	for place, op := range b.ops {
		if fault := b.opFault(place, op); fault != api.OK {
			return place, fault
		}
		b.pass(place, op)
	}
	switch {
	case len(b.outer) > 0 || b.lets > 0:
		return len(b.ops), api.ErrVerifyShape
	case b.looped && !b.isItem():
		return 0, api.ErrVerifyLoop
	}
	return updateFault(block.Update, len(b.ops))
}

// updateFault tells the place and the error of the first one of an update's places that is none, or does not rise.
func updateFault(update []int, ops int) (int, api.Errno) {
	least := 0
	for at, place := range update {
		if place < least || place >= ops {
			return at, api.ErrVerifyUpdate
		}
		least = place + 1
	}
	return 0, api.OK
}

// opFault is the first fault of an operation; if there is none, its blocks belong to it.
func (b *body) opFault(place int, op api.Op) api.Errno {
	switch {
	case place == api.MaxOps || !b.fits(op):
		return api.ErrVerifyOp
	case !b.reaches(op):
		return api.ErrVerifyCode
	case !b.stands(place, op):
		return api.ErrVerifyShape
	case !b.claims(op):
		return api.ErrVerifyBlock
	case b.stack+grows(op) > api.MaxStack:
		return api.ErrVerifyDepth
	case op.Kind == api.OpFor && b.loops == api.MaxLoops:
		return api.ErrVerifyLoop
	}
	return api.OK
}

// fits tells whether an operation names what there is, and nothing else: each kind takes away what it names, and falls through to what it shares with the next one.
func (b *body) fits(op api.Op) bool {
	named := true
	switch op.Kind {
	case api.OpText:
		named = b.isText(op.A)
		op.A = 0
	case api.OpAttr, api.OpAttrX:
		named = b.isValue(op)
		op.B = 0
		fallthrough
	case api.OpOpen:
		named = named && b.isTag(op.A)
		op.A = 0
	case api.OpFor:
		named = b.isCode(op.B)
		fallthrough
	case api.OpIf:
		op.B, op.C = 0, 0
		fallthrough
	case api.OpTextX, api.OpLet:
		named = named && b.isCode(op.A)
		op.A = 0
	case api.OpWith:
		named = len(op.List) <= api.MaxStack && !slices.ContainsFunc(op.List, b.isNoCode)
		op.C, op.List = 0, nil
	case api.OpStatic:
		named = b.isStatic(op.A)
		op.A = 0
	case api.OpDrop:
		named = op.A >= 1
		op.A = 0
	case api.OpClose:
	default:
		return false
	}
	return named && op.A == 0 && op.B == 0 && op.C == 0 && len(op.List) == 0
}

// isValue tells whether an attribute's value is there.
func (b *body) isValue(attr api.Op) bool {
	if attr.Kind == api.OpAttr {
		return b.isText(attr.B)
	}
	return b.isCode(attr.B)
}

func (b *body) isNoCode(number int) bool {
	return !b.isCode(number)
}

// reaches tells whether enough values lie on the stack for all codes of an operation.
func (b *body) reaches(op api.Op) bool {
	switch op.Kind {
	case api.OpAttrX:
		return b.needs[op.B] <= b.stack
	case api.OpWith:
		return !slices.ContainsFunc(op.List, b.isBeyond)
	case api.OpFor:
		if b.needs[op.B] > b.stack+loopValues {
			return false
		}
		fallthrough
	case api.OpTextX, api.OpIf, api.OpLet:
		return b.needs[op.A] <= b.stack
	}
	return true
}

// isBeyond tells whether a code asks for more values than lie on the stack.
func (b *body) isBeyond(number int) bool {
	return b.needs[number] > b.stack
}

// stands tells whether an operation may stand among the elements and OpLets that are there.
func (b *body) stands(place int, op api.Op) bool {
	switch op.Kind {
	case api.OpAttr, api.OpAttrX:
		return b.rises(place, op)
	case api.OpOpen:
		return b.elements+1 <= maxOpen
	case api.OpStatic:
		return b.elements+b.depths[op.A] <= maxDeep
	case api.OpClose:
		return len(b.outer) > 0 && b.lets == 0
	case api.OpDrop:
		return op.A <= b.lets
	}
	return true
}

// rises tells whether an attribute stands right behind the beginning of an element, or behind an attribute of a lesser name.
func (b *body) rises(place int, attr api.Op) bool {
	if place == 0 {
		return false
	}
	switch ahead := b.ops[place-1]; ahead.Kind {
	case api.OpOpen:
		return true
	case api.OpAttr, api.OpAttrX:
		return b.texts[ahead.A] < b.texts[attr.A]
	}
	return false
}

// claims tells whether each block of an operation may belong to it; from here on, those do.
func (b *body) claims(op api.Op) bool {
	for _, number := range blocksOf(op) {
		if number <= b.number || number >= len(b.homes) || b.homes[number].owned {
			return false
		}
		b.homes[number] = b.inside(op)
	}
	return true
}

// blocksOf are the blocks that belong to an operation.
func blocksOf(op api.Op) []int {
	switch op.Kind {
	case api.OpIf:
		return slices.DeleteFunc([]int{op.B, op.C}, func(number int) bool { return number == 0 })
	case api.OpFor, api.OpWith:
		return []int{op.C}
	}
	return nil
}

// inside is what is around a block of an operation.
func (b *body) inside(op api.Op) around {
	in := b.around
	in.stack += grows(op)
	in.looped = op.Kind == api.OpFor
	if in.looped {
		in.loops++
	}
	return in
}

// grows is how many values more lie on the stack behind an OpLet, or in the block of an operation.
func grows(op api.Op) int {
	switch op.Kind {
	case api.OpFor:
		return loopValues
	case api.OpWith:
		return len(op.List)
	case api.OpLet:
		return 1
	}
	return 0
}

// pass goes behind an operation that has no fault.
func (b *body) pass(place int, op api.Op) {
	switch op.Kind {
	case api.OpOpen:
		b.outer = append(b.outer, b.lets)
		b.lets = 0
		b.elements++
	case api.OpClose:
		b.leave(place)
	case api.OpLet:
		b.lets++
		b.stack++
	case api.OpDrop:
		b.lets -= op.A
		b.stack -= op.A
	}
}

// leave goes out of the innermost open element.
func (b *body) leave(place int) {
	last := len(b.outer) - 1
	b.lets, b.outer = b.outer[last], b.outer[:last]
	b.elements--
	if last == 0 && b.closed == 0 {
		b.closed = place
	}
}

// isItem tells whether the block makes one element and nothing beside it, as each element of a list must.
func (b *body) isItem() bool {
	if len(b.ops) == 0 {
		return false
	}
	switch b.ops[0].Kind {
	case api.OpStatic:
		return len(b.ops) == 1
	case api.OpOpen:
		return b.closed == len(b.ops)-1
	}
	return false
}
