// Package pieces tells what a core node is made of (DOC.md, chapter 15).
package pieces

import (
	"iter"

	"stencil/api"
)

// Exprs are the expressions of c alone, without those of the nodes in it: of its bound fields, of its bound parts, and its own.
func Exprs(c api.Core) iter.Seq[api.Expr] {
	return func(yield func(api.Expr) bool) {
		for _, field := range c.Fields {
			if field.Bound && !yield(field.Expr) {
				return
			}
		}
		for _, part := range c.Parts {
			if part.Bound && !yield(part.Expr) {
				return
			}
		}
		for _, e := range c.Exprs {
			if !yield(e) {
				return
			}
		}
	}
}

// Left is how much of the room is left behind the pieces of c alone, without those of the nodes in it; it is below 0, if there is not enough. An expression is gone through no further than that, so that one that lies in itself many times over ends too.
func Left(room int, c api.Core) int {
	room -= 1 + len(c.Fields) + len(c.Parts) + len(c.Exprs)
	for e := range Exprs(c) {
		room = behind(room, e)
	}
	return room
}

func behind(room int, e api.Expr) int {
	if room < 0 {
		return room
	}
	room--
	for _, kid := range e.Kids {
		room = behind(room, kid)
	}
	return room
}
