package core

import (
	"slices"

	"stencil/api"
)

// statics gathers static elements while nodes are numbered in preorder.
type statics struct {
	count int
	found []int
}

// nodes tells whether all of cs may lie in a static element.
func (s *statics) nodes(cs []api.Core) bool {
	all := true
	for _, c := range cs {
		// Behind one that may not, the others are gone through too: they have numbers, and static ones may lie in them.
		all = s.node(c) && all
	}
	return all
}

func (s *statics) node(c api.Core) bool {
	number, ahead := s.count, len(s.found)
	s.count++
	inner := s.nodes(c.Kids)
	s.nodes(c.Else)
	switch c.Kind {
	case api.CText:
		return !slices.ContainsFunc(c.Parts, func(part api.Part) bool { return part.Bound })
	case api.CElem:
		if !inner || slices.ContainsFunc(c.Fields, func(field api.Field) bool { return field.Bound }) {
			return false
		}
		// It stands for those that were found in it.
		s.found = append(s.found[:ahead], number)
		return true
	}
	return false
}
