// Package walk goes through a core with a state (DOC.md, chapter 16), for all layers that make something of what is met on the way.
package walk

import (
	"stencil/api"
	"stencil/core"
	"stencil/value"
)

// Maker makes something of what a walk meets, in the row in which it is met. Each number is that of a core node; the lists that a maker is handed are new, and its own.
type Maker interface {
	Text(number int, text string)
	// Element has to call kids once: there the walk meets what lies in the element.
	Element(number int, tag string, attrs []api.Attr, kids func())
	// Loop has to call kid with each place of keys, in their row: there the walk meets what the element of that key makes.
	Loop(number int, keys []api.Key, kid func(i int))
}

// Through goes through a core with a state, or tells the first error that is met on the way; what the maker has made by then is of no use.
func Through(cs []api.Core, v api.Value, m Maker) (code api.Errno) {
	if code := core.Check(cs); code != api.OK {
		return code
	}
	if code := value.Check(v); code != api.OK {
		return code
	}
	defer func() {
		if thrown, ok := recover().(api.Errno); ok {
			code = thrown
		}
	}()
	w := walker{Places: Places{v}, maker: m, sizes: sizes(nil, cs), room: api.MaxNodes}
	w.nodes(cs, 0)
	return api.OK
}

// sizes tells of each node, by its number, how many nodes it is with all that lie in it: those of cs behind those ahead.
func sizes(ahead []int, cs []api.Core) []int {
	for _, c := range cs {
		number := len(ahead)
		ahead = sizes(sizes(append(ahead, 0), c.Kids), c.Else)
		ahead[number] = len(ahead) - number
	}
	return ahead
}
