package model

import (
	"iter"
	"slices"

	"stencil/api"
	"stencil/attrs"
	"stencil/dom"
	"stencil/lis"
)

const (
	// root is the handle that holds what is shown.
	root = 0
	// none stands where there is no place: for the root's, for that of a node which was not there, and for the end of a row.
	none = -1
)

// shown is a rendering as it stands in the arena: its nodes, and the handles of their origins.
type shown struct {
	mounted bool
	spots   []api.Spot
	handles map[api.Origin]int
}

// handle is where the spot at that place stands in the arena.
func (s shown) handle(place int) int {
	if place == none {
		return root
	}
	return s.handles[s.spots[place].Origin]
}

// change is the way of an arena from one rendering to another.
type change struct {
	arena         *dom.Dom
	before, after shown
	plan          api.Plan
	// stood tells of each spot at which place it stood in the old rendering.
	stood []int
	// rows are the places of the kids: row 0 is the root's, the others those of the spots.
	rows [][]int
}

func newChange(arena *dom.Dom, before shown, spots []api.Spot, plan api.Plan) *change {
	c := &change{
		arena:  arena,
		before: before,
		after:  shown{mounted: true, spots: spots, handles: make(map[api.Origin]int, len(spots))},
		plan:   plan,
		stood:  slices.Repeat([]int{none}, len(spots)),
		rows:   make([][]int, len(spots)+1),
	}
	for old, place := range c.kept() {
		c.stood[place] = old
	}
	for place, spot := range spots {
		around := spot.Parent + 1
		c.rows[around] = append(c.rows[around], place)
	}
	return c
}

// bring changes the arena, and answers what stands in it then.
func (c *change) bring() shown {
	for node := range c.gone() {
		c.arena.Remove(node)
	}
	c.giveHandles()
	for tree := range c.made() {
		c.arena.Build(tree)
	}
	// What is in a new node was linked when it was built.
	c.arrange(none)
	for _, place := range c.kept() {
		c.arrange(place)
	}
	for old, place := range c.kept() {
		c.set(c.before.spots[old], c.after.spots[place])
	}
	return c.after
}

// gone goes through the handles of the nodes that go, but for those that lie in one that goes.
func (c *change) gone() iter.Seq[int] {
	return each(c.plan.Gone, c.before.handle)
}

// made goes through the trees that come.
func (c *change) made() iter.Seq[api.Tree] {
	return each(c.plan.New, c.tree)
}

// kept goes through the places, old and new, of the nodes that stay.
func (c *change) kept() iter.Seq2[int, int] {
	return func(yield func(int, int) bool) {
		for _, pair := range c.plan.Kept {
			if !yield(pair[0], pair[1]) {
				return
			}
		}
	}
}

// each goes through what the places stand for.
func each[T any](places []int, of func(int) T) iter.Seq[T] {
	return func(yield func(T) bool) {
		for _, place := range places {
			if !yield(of(place)) {
				return
			}
		}
	}
}

// giveHandles tells where the nodes stand: those that stay where they stood, the others where the free list will have them be built, one behind the other.
func (c *change) giveHandles() {
	free := c.arena.Free()
	for place, spot := range c.after.spots {
		if old := c.stood[place]; old != none {
			c.after.handles[spot.Origin] = c.before.handle(old)
			continue
		}
		c.after.handles[spot.Origin] = free[0]
		free = free[1:]
	}
}

// tree is the node at that place with all below it.
func (c *change) tree(place int) api.Tree {
	spot := c.after.spots[place]
	return api.Tree{Tag: spot.Tag, Text: spot.Text, Attrs: spot.Attrs, Kids: slices.Collect(each(c.rows[place+1], c.tree))}
}

// arrange brings the kids of a node that stays into their row, from the last one on: so what each must stand ahead of stands already.
func (c *change) arrange(parent int) {
	row := c.rows[parent+1]
	resting, before := c.resting(row), none
	for _, place := range slices.Backward(row) {
		node := c.after.handle(place)
		if c.stood[place] == none {
			c.arena.Place(c.after.handle(parent), node, before)
		} else if _, rests := slices.BinarySearch(resting, place); !rests {
			c.arena.Move(node, before)
		}
		before = node
	}
}

// resting are the places of a row, rising, that need not be moved, as many as may be. Only the elements of a loop change their row, and what is ahead of a loop stays ahead of it, so these are as many as loop by loop.
func (c *change) resting(row []int) []int {
	stayed := slices.DeleteFunc(slices.Clone(row), func(place int) bool { return c.stood[place] == none })
	olds := slices.Collect(each(stayed, func(place int) int { return c.stood[place] }))
	return slices.Collect(each(lis.Longest(olds), func(at int) int { return stayed[at] }))
}

// set gives a node that stays the text and the attributes that it has now, where they are others.
func (c *change) set(old, now api.Spot) {
	node := c.after.handles[now.Origin]
	if old.Text != now.Text {
		c.arena.SetText(node, now.Text)
	}
	attrs.Set(c.arena, node, old.Attrs, now.Attrs)
}
