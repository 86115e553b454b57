// Package attrs tells how the attributes of a node differ from those that it has later, and sets what differs.
package attrs

import (
	"cmp"
	"iter"

	"stencil/api"
	"stencil/dom"
)

// Set gives the element node the attributes news in place of olds, which it has. It touches none that stays as it is.
func Set(arena *dom.Dom, node int, olds, news []api.Attr) {
	for attr, stays := range Changes(olds, news) {
		if stays {
			arena.SetAttr(node, attr.Name, attr.Value)
		} else {
			arena.DropAttr(node, attr.Name)
		}
	}
}

// Changes goes through the names that have not the same value in both lists, or stand in one alone: each with the attribute as the new list has it and true, or, where that has none, as the old one has it and false. Both lists rise by name.
func Changes(olds, news []api.Attr) iter.Seq2[api.Attr, bool] {
	return func(yield func(api.Attr, bool) bool) {
		// These are cut, so each walk needs its own.
		olds, news := olds, news
		for goesOn := true; goesOn && len(olds)+len(news) > 0; {
			switch least := order(olds, news); {
			case least < 0:
				goesOn = yield(olds[0], false)
				olds = olds[1:]
			case least > 0:
				goesOn = yield(news[0], true)
				news = news[1:]
			default:
				goesOn = olds[0] == news[0] || yield(news[0], true)
				olds, news = olds[1:], news[1:]
			}
		}
	}
}

// order tells where the least name stands: below 0, if the old list alone has it, above 0, if the new one alone. One of them is not empty.
func order(olds, news []api.Attr) int {
	switch {
	case len(news) == 0:
		return -1
	case len(olds) == 0:
		return 1
	}
	return cmp.Compare(olds[0].Name, news[0].Name)
}
