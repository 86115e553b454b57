package render

import (
	"slices"
	"testing"

	"stencil/api"
)

// forests yields every list of so many nodes in all, each with one of the labels; a for has just one kid, an if may have some in its else.
func forests(count int, labels []api.Core, yield func([]api.Core)) {
	if count == 0 {
		yield(nil)
		return
	}
	for _, label := range labels {
		for inside := range count {
			if label.Kind == api.CText && inside > 0 {
				break
			}
			hold(label, inside, labels, func(first api.Core) {
				forests(count-1-inside, labels, func(rest []api.Core) {
					yield(append(list(first), rest...))
				})
			})
		}
	}
}

// hold yields a node with every list of so many nodes in it; what lies in a for lies in its element.
func hold(c api.Core, count int, labels []api.Core, yield func(api.Core)) {
	for els := range count + 1 {
		if els > 0 && c.Kind != api.CIf {
			return
		}
		forests(count-els, labels, func(kids []api.Core) {
			forests(els, labels, func(others []api.Core) {
				held := c
				if c.Kind == api.CFor {
					kids = list(elem("li", kids...))
				}
				held.Kids, held.Else = kids, others
				yield(held)
			})
		})
	}
}

// TestP16EverySmall: of the small cores every one, with states of all kinds.
func TestP16EverySmall(t *testing.T) {
	t.Parallel()
	labels := list(text("x"), hole(of("a")), hole(v(0)), elem("p"), fields(elem("q"), boundField("a", of("a"))), when(of("b")), api.Core{Kind: api.CFor, Exprs: exprs(of("l"), v(1))}, api.Core{Kind: api.CFor, Exprs: exprs(v(0), v(2))}, with(nil), with(exprs(of("a"), v(0))))
	var all []api.Value
	for _, a := range []api.Value{null, whole(1), row()} {
		for _, b := range []api.Value{truth(true), truth(false)} {
			all = append(all, rec("a,b,l", a, b, row(whole(2), txt("2"))))
		}
	}
	all = append(all, rec("b,l,a", null, row(null), txt("t")), rec("l,b,a", row(whole(1), whole(1)), truth(true), truth(true)), row(whole(1), null), row(), txt("t"))
	met := map[api.Errno]int{}
	try := func(cs []api.Core) {
		for _, state := range all {
			met[expectAsked(t, cs, state)]++
		}
	}
	for count := range 4 {
		forests(count, labels, try)
	}
	forests(4, list(labels[0], labels[2], labels[4], labels[5], labels[6]), try)
	for _, code := range []api.Errno{api.OK, api.ErrEvalType, api.ErrRenderKey} {
		if met[code] < 1000 {
			t.Errorf("few of %d: %v", code, met)
		}
	}
}

// lists are all lists of up to so many of those.
func lists[T any](most int, those []T) [][]T {
	out := [][]T{nil}
	for from := 0; most > 0; most-- {
		end := len(out)
		for _, shorter := range out[from:end] {
			for _, one := range those {
				out = append(out, append(slices.Clone(shorter), one))
			}
		}
		from = end
	}
	return out
}

// TestP16EveryPart: every short text, and every short row of fields.
func TestP16EveryPart(t *testing.T) {
	t.Parallel()
	state := rec("n,b,i,t,l", null, truth(true), whole(-1), txt("s"), row())
	met := map[api.Errno]int{}
	for _, ps := range lists(4, []api.Part{plain("a"), bound(of("n")), bound(of("b")), bound(of("i")), bound(of("t")), bound(of("l")), bound(of("z"))}) {
		met[expectAsked(t, list(parts(ps...)), state)]++
	}
	for _, es := range lists(4, exprs(of("n"), of("b"), op(api.ENot, of("b")), of("i"), of("t"), of("l"), of("z"))) {
		c := elem("p")
		for i, e := range es {
			c.Fields = append(c.Fields, boundField(string(rune('a'+2*i)), e), plainField(string(rune('b'+2*i)), "x"))
		}
		met[expectAsked(t, list(c), state)]++
		met[expectAsked(t, list(with(es, text("x"))), state)]++
	}
	if met[api.OK] < 500 || met[api.ErrEvalType] < 500 || met[api.ErrEvalPath] < 500 {
		t.Errorf("%v", met)
	}
}

// TestP16EveryList: every short list of elements, with keys by the element, by its number, and by both.
func TestP16EveryList(t *testing.T) {
	t.Parallel()
	met := map[api.Errno]int{}
	for _, elements := range lists(5, []api.Value{whole(0), whole(1), txt("0"), txt(""), null, truth(true)}) {
		for _, key := range exprs(v(1), v(2), op(api.ECat, v(1), v(2)), op(api.ECat, v(1), str("")), op(api.EIf, op(api.ESame, v(1), v(2)), v(1), v(2))) {
			met[expectAsked(t, list(loop(v(0), key, elem("p", parts(bound(v(1)), plain("."), bound(v(2)))))), row(elements...))]++
		}
	}
	if met[api.OK] < 1000 || met[api.ErrEvalType] < 1000 || met[api.ErrRenderKey] < 1000 || len(met) != 3 {
		t.Errorf("%v", met)
	}
}
