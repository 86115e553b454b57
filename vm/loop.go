package vm

import (
	"slices"

	"stencil/api"
	"stencil/lis"
	"stencil/walk"
)

// exchange is what becomes of what an OpFor has left, by the places where the elements stood.
type exchange struct {
	*loop
	places map[api.Key]int
	moves  []bool
	// gone are, of an element that stays, the nodes that go in it; of one that goes it is that.
	gone [][]*node
}

func newExchange(old *loop, news []api.Key) exchange {
	x := exchange{loop: old, places: make(map[api.Key]int, len(old.keys)), moves: slices.Repeat([]bool{true}, len(old.keys))}
	for at, key := range old.keys {
		x.places[key] = at
		x.gone = append(x.gone, old.items[at].tops)
	}
	var row []int
	for _, key := range news {
		if at, stays := x.places[key]; stays {
			row = append(row, at)
		}
	}
	for _, i := range lis.Longest(row) {
		x.moves[row[i]] = false
	}
	return x
}

// loop is what an OpFor leaves.
func (b *body) loop(place int, op api.Op) *loop {
	old := b.noItems
	if b.old != nil {
		old = b.old.loops[len(b.now.loops)]
	}
	if !b.looks(place) {
		b.leave(old.piece)
		return old
	}
	list := walk.List(b.value(op.A))
	now := &loop{keys: b.Keys(list, func() api.Value { return b.value(op.B) }, api.ErrVmKey)}
	x := newExchange(old, now.keys)
	now.piece = b.piece(func() {
		for i, key := range now.keys {
			b.Within(list, i, func() { now.items = append(now.items, b.item(op.C, key, x)) })
		}
	})
	// The elements are gone through as they stand now, but what goes is told as it stood.
	for _, tops := range x.gone {
		b.gone = append(b.gone, tops...)
	}
	if len(now.keys) == 0 {
		return b.noItems
	}
	return now
}

// item is what the block of an OpFor leaves for the element of a key.
func (b *body) item(block int, key api.Key, x exchange) *instance {
	at, stays := x.places[key]
	if !stays {
		return b.run(block, nil)
	}
	outer := b.gone
	b.gone = nil
	now := b.run(block, x.items[at])
	x.gone[at], b.gone = b.gone, outer
	if x.moves[at] {
		b.row.steps = append(b.row.steps, step{at: len(b.row.nodes) - 1, moves: true})
	}
	return now
}
