package check

import (
	"slices"

	"stencil/api"
)

// component is what a def says.
type component struct {
	props []string
	// slots are those anywhere in it, by their names.
	slots map[string]*opening
	kids  []branch
}

// opening is all slots of one name of a component.
type opening struct {
	count int
	// having is how many of the slots have a prop.
	having map[string]int
}

// use is one use of a component, with what it fills in by the names of the slots.
type use struct {
	def   *component
	fills map[string]fill
}

type fill struct {
	let  []string
	kids []branch
}

// open notes a slot.
func (def *component) open(slot *api.Node) {
	name := plainOf(slot, "name")
	o := def.slots[name]
	if o == nil {
		o = &opening{having: map[string]int{}}
		def.slots[name] = o
	}
	o.count++
	for _, field := range slot.Fields {
		if field.Bound {
			o.having[field.Name]++
		}
	}
}

// misfit is what is wrong with a use's kids, but for what each of them is asked itself.
func (def *component) misfit(n *api.Node) fault {
	if slices.ContainsFunc(n.Kids, isFill) {
		for _, kid := range n.Kids {
			if isSolid(kid) && !isFill(kid) {
				return fault{api.ErrCheckFill, kid.At}
			}
		}
		return fault{}
	}
	if slices.ContainsFunc(n.Kids, isSolid) && def.slots[""] == nil {
		return fault{api.ErrCheckFill, n.At}
	}
	return fault{}
}

// misfit is what is wrong with a further fill.
func (u *use) misfit(n *api.Node) fault {
	name, let := plainOf(n, "name"), fieldOf(n, "let")
	o := u.def.slots[name]
	if o == nil {
		return fault{api.ErrCheckFill, n.At}
	}
	if _, twice := u.fills[name]; twice {
		return fault{api.ErrCheckTwice, n.At}
	}
	for _, word := range words(let.Plain) {
		if o.having[word] < o.count {
			return fault{api.ErrCheckFill, let.At}
		}
	}
	return fault{}
}
