package core

import (
	"slices"
	"testing"

	"stencil/api"
)

// forests yields every list of so many nodes in all, each with one of the labels; kids stand in all that is no text, and in an if also in its else.
func forests(count int, labels []api.Core, yield func([]api.Core)) {
	if count == 0 {
		yield(nil)
		return
	}
	for _, label := range labels {
		for inside := range count {
			if label.Kind == api.CText && inside > 0 {
				break
			}
			hold(label, inside, labels, func(first api.Core) {
				forests(count-1-inside, labels, func(rest []api.Core) {
					yield(append(list(first), rest...))
				})
			})
		}
	}
}

// hold yields a node with every list of so many nodes in it.
func hold(c api.Core, count int, labels []api.Core, yield func(api.Core)) {
	if c.Kind != api.CIf {
		forests(count, labels, func(kids []api.Core) {
			c.Kids = kids
			yield(c)
		})
		return
	}
	for els := range count + 1 {
		forests(count-els, labels, func(kids []api.Core) {
			forests(els, labels, func(others []api.Core) {
				c.Kids, c.Else = kids, others
				yield(c)
			})
		})
	}
}

func expectCodes(t *testing.T, met map[api.Errno]int, least int, codes ...api.Errno) {
	t.Helper()
	for _, code := range codes {
		if met[code] < least {
			t.Errorf("few of %d: %v", code, met)
		}
	}
	if len(met) != len(codes) {
		t.Errorf("%v", met)
	}
}

// TestP15EverySmall: of the small cores every one.
func TestP15EverySmall(t *testing.T) {
	t.Parallel()
	labels := list(text("x"), hole(v(0)), hole(v(2)), text(""), elem("p"), fields(elem("q"), boundField("a", v(1))), fields(elem("q"), plainField("a", "")), elem("P"), when(v(0)), when(v(2)), when(api.Expr{}), loop(v(0), v(2)), loop(v(1), v(0)), loop(v(0), v(3)), with(nil), with([]api.Expr{v(0)}), with([]api.Expr{v(1), num(1)}), api.Core{})
	met := map[api.Errno]int{}
	for count := range 4 {
		forests(count, labels, func(cs []api.Core) { met[expectAsked(t, cs)]++ })
	}
	expectCodes(t, met, 100, api.OK, api.ErrCoreForm, api.ErrCoreExpr, api.ErrCoreName)
}

// TestP15EveryFour: of four and five nodes, fewer.
func TestP15EveryFour(t *testing.T) {
	t.Parallel()
	met := map[api.Errno]int{}
	forests(4, list(text("x"), hole(v(2)), elem("p"), fields(elem("q"), boundField("a", v(0))), when(v(1)), loop(v(0), v(2)), with(nulls(1))), func(cs []api.Core) { met[expectAsked(t, cs)]++ })
	expectCodes(t, met, 100, api.OK, api.ErrCoreForm, api.ErrCoreName)
	// All may be, but fors that have no element: what is counted, and what is static.
	met = map[api.Errno]int{}
	forests(5, list(text("x"), elem("p"), loop(v(0), v(0)), fields(elem("q"), boundField("a", v(0)))), func(cs []api.Core) { met[expectAsked(t, cs)]++ })
	forests(5, list(text("x"), elem("p"), hole(v(0)), when(v(0))), func(cs []api.Core) { met[expectAsked(t, cs)]++ })
	forests(6, list(text("x"), elem("p"), with(nil)), func(cs []api.Core) { met[expectAsked(t, cs)]++ })
	expectCodes(t, met, 1000, api.OK, api.ErrCoreForm)
}

// lists are all lists of up to so many of those.
func lists[T any](most int, those []T) [][]T {
	out := [][]T{nil}
	for from := 0; most > 0; most-- {
		end := len(out)
		for _, shorter := range out[from:end] {
			for _, one := range those {
				out = append(out, append(slices.Clone(shorter), one))
			}
		}
		from = end
	}
	return out
}

// TestP15EveryPart: every short text, and every short row of fields.
func TestP15EveryPart(t *testing.T) {
	t.Parallel()
	met := map[api.Errno]int{}
	for _, ps := range lists(4, []api.Part{plain("a"), plain(""), plain("\xff"), bound(v(0)), bound(v(1)), bound(api.Expr{}), {Plain: "a", Bound: true, Expr: v(0)}, {Plain: "a", Expr: v(0)}}) {
		met[expectAsked(t, list(parts(ps...)))]++
	}
	for _, fs := range lists(3, []api.Field{plainField("a", "x"), plainField("a", ""), plainField("b", "\xff"), boundField("a", v(0)), boundField("b", v(1)), boundField("c", api.Expr{}), boundField("c", v(0)), plainField("c", ""), plainField("b", "y"), plainField("B", ""), {Name: "b", At: 1}, {Name: "c", Plain: "x", Bound: true, Expr: v(0)}, {Name: "c", Expr: v(0)}}) {
		met[expectAsked(t, list(fields(elem("p"), fs...)))]++
		met[expectAsked(t, list(loop(v(0), v(0), fields(elem("p"), fs...))))]++
	}
	expectCodes(t, met, 30, api.OK, api.ErrCoreForm, api.ErrCoreExpr, api.ErrCoreName)
}

// TestP15EveryExprs: every short row of expressions, of each Kind.
func TestP15EveryExprs(t *testing.T) {
	t.Parallel()
	met := map[api.Errno]int{}
	for _, es := range lists(3, []api.Expr{v(0), v(1), v(2), v(3), v(-1), {}, op(api.EAdd, v(0), v(1)), op(api.EAdd, v(0), op(api.ENot)), num(-1)}) {
		for kind := range 7 {
			for _, kids := range [][]api.Core{nil, {elem("p")}, {hole(v(2))}, {elem("p", hole(v(2)))}} {
				c := api.Core{Kind: kind, Exprs: es, Kids: kids}
				met[expectAsked(t, list(c))]++
				met[expectAsked(t, list(with(nulls(1), c)))]++
			}
		}
	}
	expectCodes(t, met, 100, api.OK, api.ErrCoreForm, api.ErrCoreExpr, api.ErrCoreName)
}
