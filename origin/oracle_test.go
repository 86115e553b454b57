package origin

import (
	"slices"

	"stencil/api"
	"stencil/render"
	"stencil/value"
)

// The document said a second time: the nodes are those of Render's forest, laid flat; which core nodes they came from is told by a list of those that are still to be met, each with a stack, keys and a number of its own.

// standing is a core node that is still to be met.
type standing struct {
	core   api.Core
	number int
	stack  []api.Value
	keys   []api.Key
}

// standings are those of cs, the first of which has that number, with the last one in front.
func standings(cs []api.Core, number int, stack []api.Value, keys []api.Key) []standing {
	var out []standing
	for i, c := range cs {
		out = append(out, standing{c, number + counted(cs[:i]), stack, keys})
	}
	slices.Reverse(out)
	return out
}

// counted is how many nodes cs are, with all that lie in them.
func counted(cs []api.Core) int {
	count := len(cs)
	for _, c := range cs {
		count += counted(c.Kids) + counted(c.Else)
	}
	return count
}

func (s standing) origin() api.Origin {
	o := api.Origin{Node: s.number, Loops: len(s.keys)}
	copy(o.Keys[:], s.keys)
	return o
}

// value is what an expression comes to, of which Render has told that it comes to something. Of the stack just what is asked for is laid there, as Eval goes through all of it.
func (s standing) value(e api.Expr, more ...api.Value) api.Value {
	all := slices.Concat(s.stack, more)
	stack := slices.Repeat([]api.Value{{Kind: api.KNull}}, len(all))
	lay(stack, all, e)
	v, code := render.Eval(e, stack)
	if code != api.OK {
		panic(code)
	}
	return v
}

func lay(stack, all []api.Value, e api.Expr) {
	if e.Op == api.EVar {
		stack[e.Int] = all[e.Int]
	}
	for _, kid := range e.Kids {
		lay(stack, all, kid)
	}
}

// loop is the standing of a for, and what lies in it: just one node for each element.
func (s standing) loop() (api.Loop, []standing) {
	loop, inside := api.Loop{Origin: s.origin()}, []standing{}
	for i, element := range s.value(s.core.Exprs[0]).List {
		place := api.Value{Kind: api.KInt, Int: i}
		key, _ := value.KeyOf(s.value(s.core.Exprs[1], element, place))
		loop.Keys = append(loop.Keys, key)
		next := standings(s.core.Kids, s.number+1, slices.Concat(s.stack, []api.Value{element, place}), slices.Concat(s.keys, []api.Key{key}))
		inside = append(inside, next...)
	}
	slices.Reverse(inside)
	return loop, inside
}

// inside is what lies in a node that is no for.
func (s standing) inside() []standing {
	switch s.core.Kind {
	case api.CIf:
		if !s.value(s.core.Exprs[0]).Bool {
			return standings(s.core.Else, s.number+1+counted(s.core.Kids), s.stack, s.keys)
		}
	case api.CWith:
		stack := slices.Clone(s.stack)
		for _, e := range s.core.Exprs {
			stack = append(stack, s.value(e))
		}
		return standings(s.core.Kids, s.number+1, stack, s.keys)
	}
	return standings(s.core.Kids, s.number+1, s.stack, s.keys)
}

// flat are the nodes of a forest behind those ahead, in preorder, without their origins.
func flat(ahead []api.Spot, parent int, fs []api.Tree) []api.Spot {
	for _, tree := range fs {
		place := len(ahead)
		ahead = flat(append(ahead, api.Spot{Parent: parent, Tag: tree.Tag, Text: tree.Text, Attrs: tree.Attrs}), place, tree.Kids)
	}
	return ahead
}

// askedTrace is what P17.1 says of a core and a state.
func askedTrace(cs []api.Core, v api.Value) ([]api.Spot, []api.Loop, api.Errno) {
	fs, code := render.Render(cs, v)
	if code != api.OK {
		return nil, nil, code
	}
	spots, loops, met := flat(nil, -1, fs), []api.Loop{}, 0
	todo := standings(cs, 0, []api.Value{v}, nil)
	for len(todo) > 0 {
		next := todo[len(todo)-1]
		todo = todo[:len(todo)-1]
		switch next.core.Kind {
		case api.CFor:
			loop, inside := next.loop()
			loops, todo = append(loops, loop), append(todo, inside...)
			continue
		case api.CText, api.CElem:
			spots[met].Origin = next.origin()
			met++
		}
		todo = append(todo, next.inside()...)
	}
	if met != len(spots) {
		panic("not all nodes have an origin")
	}
	return spots, loops, api.OK
}

// askedForest is what P17.2 says of spots.
func askedForest(spots []api.Spot) []api.Tree {
	var elements []int
	for i, spot := range spots {
		if spot.Parent != -1 && !slices.Contains(elements, spot.Parent) {
			return nil
		}
		if spot.Tag != "" {
			elements = append(elements, i)
		}
	}
	return heldBy(spots, -1)
}

// heldBy are the trees of those spots whose parent is at that place.
func heldBy(spots []api.Spot, place int) []api.Tree {
	var out []api.Tree
	for i, spot := range spots {
		if spot.Parent == place {
			out = append(out, api.Tree{Tag: spot.Tag, Text: spot.Text, Attrs: spot.Attrs, Kids: heldBy(spots, i)})
		}
	}
	return out
}
