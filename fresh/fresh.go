// Package fresh copies what is handed on, so that no answer shares memory with an argument or with another answer.
package fresh

import (
	"slices"

	"stencil/api"
)

// Value is a copy of v and of all that lies in it.
func Value(v api.Value) api.Value {
	v.Names = slices.Clone(v.Names)
	v.List = slices.Clone(v.List)
	for i, part := range v.List {
		v.List[i] = Value(part)
	}
	return v
}
