package vm

import "stencil/api"

// node is a node of the arena: a text, an element, or the topmost one of a static. It stays the same as long as its instance stands.
type node struct {
	handle int
	text   string
	attrs  []api.Attr
}

// piece is what a part of an instance is in the forest: how many nodes, and the topmost of them, in their row.
type piece struct {
	count int
	tops  []*node
}

// instance is what a run of a block has left, of each kind of operation in their row. It is not changed any more: an update of it is another one, of which the parts that are left as they are, are the same.
type instance struct {
	piece
	block int
	// nodes are those of OpText, OpTextX, OpOpen and OpStatic.
	nodes []*node
	// inner are those of OpIf and OpWith, loops those of OpFor.
	inner []*instance
	loops []*loop
}

// loop is what an OpFor has left: an instance for each key.
type loop struct {
	piece
	keys  []api.Key
	items []*instance
}
