package render

import (
	"math"
	"slices"
	"strings"
	"testing"

	"stencil/api"
)

// TestP16_2WrongCores: what core.Check does not take is told ahead of all else, and nothing of it is walked.
func TestP16_2WrongCores(t *testing.T) {
	for _, c := range []struct {
		cs   []api.Core
		code api.Errno
	}{
		{list(api.Core{}), api.ErrCoreForm}, {list(api.Core{Kind: 6}), api.ErrCoreForm}, {list(api.Core{Kind: -1}), api.ErrCoreForm}, {list(text("")), api.ErrCoreForm}, {list(elem("P")), api.ErrCoreForm}, {list(api.Core{Kind: api.CIf}), api.ErrCoreForm}, {list(api.Core{Kind: api.CFor, Exprs: exprs(v(0), v(0))}), api.ErrCoreForm}, {list(loop(v(0), v(0), text("x"))), api.ErrCoreForm},
		{list(fields(elem("p"), plainField("b", ""), plainField("a", ""))), api.ErrCoreForm}, {list(api.Core{Kind: api.CWith, Else: list(text("x"))}), api.ErrCoreForm}, {list(text("x"), elem("p", when(v(0), elem("")))), api.ErrCoreForm},
		{list(hole(v(1))), api.ErrCoreName}, {list(hole(v(-1))), api.ErrCoreName}, {list(with(exprs(v(1)))), api.ErrCoreName}, {list(with(exprs(num(1), v(1)))), api.ErrCoreName}, {list(loop(v(1), v(0), elem("p"))), api.ErrCoreName}, {list(loop(v(0), v(3), elem("p"))), api.ErrCoreName}, {list(with(exprs(num(1)), text("x")), hole(v(1))), api.ErrCoreName},
		{list(hole(api.Expr{})), api.ErrCoreExpr}, {list(hole(api.Expr{Op: api.EVar, Str: "a"})), api.ErrCoreExpr}, {list(when(op(api.ENot))), api.ErrCoreExpr}, {list(hole(chain(2*api.MaxExpr + 1))), api.ErrCoreExpr},
		{list(nested(2*api.MaxNest, text("x"))), api.ErrCoreDeep}, {list(with(slices.Repeat(exprs(num(1)), api.MaxStack))), api.ErrCoreDeep},
		{slices.Repeat(list(elem("p")), api.MaxCore+1), api.ErrCoreLarge},
	} {
		for _, state := range append(kinds(), api.Value{}, api.Value{Kind: 9}, txt("\xff")) {
			expectFault(t, c.cs, state, c.code)
			// Where it would not be walked, or an error would be met ahead of it, too.
			expectFault(t, append(list(hole(of("none"))), c.cs...), state, c.code)
			expectFault(t, list(otherwise(when(op(api.ETrue)), c.cs...)), state, c.code)
			if c.code != api.ErrCoreDeep && c.code != api.ErrCoreName {
				expectFault(t, list(loop(v(0), v(1), elem("q", c.cs...))), state, c.code)
			}
		}
	}
}

// TestP16_2WrongStates: what value.Check does not take is told behind the core's faults and ahead of the walk's.
func TestP16_2WrongStates(t *testing.T) {
	met := map[api.Errno]int{}
	for _, state := range wrongValues() {
		for _, cs := range [][]api.Core{nil, {}, list(text("x")), list(hole(v(0))), list(hole(of("none"))), list(when(num(1))), list(hole(op(api.EDiv, num(1), num(0)))), samples()} {
			met[expectAsked(t, cs, state)]++
		}
	}
	for _, code := range []api.Errno{api.ErrValueKind, api.ErrValueForm, api.ErrValueDeep, api.ErrValueLarge} {
		if met[code] == 0 {
			t.Errorf("%d was never met: %v", code, met)
		}
	}
	if len(met) != 4 {
		t.Errorf("%v", met)
	}
	expectFault(t, nil, api.Value{}, api.ErrValueKind)
	expectFault(t, nil, txt("\xff"), api.ErrValueForm)
	expectFault(t, nil, many(api.MaxItems), api.ErrValueLarge)
	expect(t, nil, many(api.MaxItems-1), "")
}

// homes are cores with an expression in each place where one may stand, so that the walk meets it with faultState; each stands first of all that could go wrong.
func homes(e api.Expr) map[string]api.Core {
	return map[string]api.Core{
		"part": hole(e), "later part": parts(plain("a"), bound(num(1)), bound(e), plain("b")), "field": fields(elem("p"), boundField("a", e)), "later field": fields(elem("p", text("x")), plainField("a", ""), boundField("b", num(1)), boundField("c", e)),
		"test": when(e, text("x")), "test with else": otherwise(when(e), text("x")), "list": loop(e, v(2), elem("p")), "key": loop(of("l"), e, elem("p", text("x"))),
		"with": with(exprs(e)), "later with": with(exprs(v(0), e, num(1)), text("x")),
		"kid": elem("p", text("x"), hole(e)), "if's kid": when(of("b"), text("x"), elem("p", hole(e))), "else's kid": otherwise(when(op(api.ENot, of("b"))), elem("p"), hole(e)), "for's kid": loop(of("l"), v(1), elem("p", text("x"), hole(e))), "for's field": loop(of("l"), v(1), fields(elem("p"), boundField("a", e))), "with's kid": with(exprs(num(1)), hole(e)),
	}
}

// TestP16_2Faults: each error of an expression at each Kind that can meet it.
func TestP16_2Faults(t *testing.T) {
	for code, e := range faulty() {
		for _, c := range homes(e) {
			expectFault(t, list(c), faultState(), code)
			expectFault(t, list(text("x"), elem("q", c)), faultState(), code)
			expectFault(t, list(with(nil, c), hole(of("none"))), faultState(), code)
			// Where the walk does not come, nothing is met.
			expect(t, list(text("x"), otherwise(when(op(api.EFalse), c), text("y"))), faultState(), "x|y")
			expect(t, list(loop(v(0), v(0), elem("p", c))), row(), "")
		}
	}
	// A place that is none, and what is no expression, are the core's faults, ahead of the walk.
	for code, e := range map[api.Errno]api.Expr{api.ErrCoreName: v(3), api.ErrCoreExpr: {}} {
		for _, c := range homes(e) {
			expectFault(t, list(c), faultState(), code)
			expectFault(t, list(hole(of("none")), c), faultState(), code)
		}
	}
}

// TestP16_2Types: a value of each kind at each Kind: just some have what it asks for.
func TestP16_2Types(t *testing.T) {
	takes := map[string][]int{
		"part": {api.KNull, api.KBool, api.KInt, api.KStr}, "field": {api.KNull, api.KBool, api.KInt, api.KStr}, "later part": {api.KNull, api.KBool, api.KInt}, "later field": {api.KNull, api.KBool, api.KInt, api.KStr},
		"test": {api.KBool}, "test with else": {api.KBool}, "list": {api.KList}, "with": {1, 2, 3, 4, 5, 6}, "later with": {1, 2, 3, 4, 5, 6},
	}
	for _, one := range kinds() {
		state := rec("x,b,l", one, truth(true), row(whole(1), whole(2)))
		for place, c := range homes(of("x")) {
			kinds, ok := takes[place]
			if !ok || place == "later part" && one.Kind == api.KStr {
				expectAsked(t, list(c), state)
				continue
			}
			want := api.OK
			if !slices.Contains(kinds, one.Kind) {
				want = api.ErrEvalType
			}
			if _, code := Render(list(c), state); code != want {
				t.Errorf("%s of %s: %d, want %d", place, shown(one), code, want)
			}
			expectAsked(t, list(c), state)
		}
	}
}

// holders are what can go wrong, in the row in which the walk meets it: a core that holds an expression in each of its places.
func holders(es []api.Expr) []api.Core {
	return list(
		fields(elem("p", parts(bound(es[2]), plain("x"), bound(es[3])), when(op(api.EAny, es[4], op(api.ETrue)), hole(es[5]))), boundField("a", es[0]), plainField("b", ""), boundField("c", es[1])),
		loop(op(api.EIf, op(api.EBoth, es[6], op(api.EFalse)), of("l"), of("l")), op(api.EIf, op(api.ESame, es[7], num(9)), v(1), v(2)), fields(elem("q", hole(es[9]), loop(of("l"), op(api.ECat, es[10], v(4)), elem("r", hole(es[11])))), boundField("a", es[8]))),
		with(exprs(es[12], es[13]), hole(es[14]), otherwise(when(op(api.ESame, es[15], num(99)), hole(of("none"))), hole(es[16]))),
		hole(es[17]),
	)
}

// TestP16_2First: of two faults the one that the walk meets first, wherever they are.
func TestP16_2First(t *testing.T) {
	const places = 18
	// Each place takes a bool.
	fine := slices.Repeat(exprs(op(api.EFalse)), places)
	expect(t, holders(fine), faultState(), `<p b="">falsexfalse|false</p><q>false<r>false</r><r>false</r></q><q>false<r>false</r><r>false</r></q>false|false|false`)
	faults := faulty()
	for first := range places {
		for code, e := range faults {
			es := slices.Clone(fine)
			es[first] = e
			expectFault(t, holders(es), faultState(), code)
			for second := first + 1; second < places; second++ {
				for _, other := range faults {
					es := slices.Clone(es)
					es[second] = other
					expectFault(t, holders(es), faultState(), code)
				}
			}
		}
	}
}

// TestP16_2KeysFirst: the list ahead of the keys, all keys ahead of the first kid.
func TestP16_2KeysFirst(t *testing.T) {
	zero, path := op(api.EDiv, num(1), num(0)), of("none")
	bad := fields(elem("p", hole(path)), boundField("a", path))
	state := func(l api.Value) api.Value { return rec("l", l) }
	expectFault(t, list(loop(of("l"), v(1), bad)), state(row(whole(1), whole(2), whole(1))), api.ErrRenderKey)
	expectFault(t, list(loop(of("l"), v(1), bad)), state(row(whole(1), whole(2), null)), api.ErrEvalType)
	expectFault(t, list(loop(of("l"), v(1), bad)), state(row(whole(1), whole(2))), api.ErrEvalPath)
	expectFault(t, list(loop(of("l"), zero, bad)), state(row(whole(1))), api.ErrEvalZero)
	expectFault(t, list(loop(of("l"), zero, bad)), state(whole(1)), api.ErrEvalType)
	expectFault(t, list(loop(path, zero, bad)), state(row(whole(1))), api.ErrEvalPath)
	expect(t, list(loop(of("l"), zero, bad)), state(row()), "")
	// An element's own key goes wrong ahead of what is the same as an earlier one's, element by element.
	keys := list(loop(of("l"), index(v(1), num(0)), bad))
	expectFault(t, keys, state(row(row(whole(1)), row(whole(1)), row())), api.ErrRenderKey)
	expectFault(t, keys, state(row(row(whole(1)), row(), row(whole(1)))), api.ErrEvalIndex)
	expectFault(t, keys, state(row(row(whole(1)), whole(1), row())), api.ErrEvalType)
	expectFault(t, keys, state(row(row(whole(1)), row(null), row())), api.ErrEvalType)
	// The keys of a loop inside are asked element by element of the one around it, behind what stands ahead of it there.
	inner := list(loop(of("l"), v(2), elem("p", hole(index(v(1), num(0))), loop(v(1), v(3), elem("q")))))
	expectFault(t, inner, state(row(row(whole(1), whole(1)), row())), api.ErrRenderKey)
	expectFault(t, inner, state(row(row(whole(1)), row())), api.ErrEvalIndex)
	expectFault(t, inner, state(row(row(), row(whole(1), whole(1)))), api.ErrEvalIndex)
	expectFault(t, inner, state(row(row(whole(1)), row(row(), whole(1)))), api.ErrEvalType)
	expect(t, inner, state(row(row(whole(1)), row(whole(1), txt("1")))), "<p>1<q></q></p><p>1<q></q><q></q></p>")
}

// TestP16_2TextRow: of a part its own error, then that it has no text, then that the text is too long with it; part by part.
func TestP16_2TextRow(t *testing.T) {
	long := strings.Repeat("x", api.MaxStr)
	state := rec("long,l,n", txt(long), row(), whole(1))
	zero := op(api.EDiv, num(1), num(0))
	for _, c := range []struct {
		ps   []api.Part
		code api.Errno
	}{
		{[]api.Part{plain(long), bound(zero)}, api.ErrEvalZero}, {[]api.Part{plain(long), bound(of("l"))}, api.ErrEvalType}, {[]api.Part{plain(long), bound(of("n"))}, api.ErrEvalLong}, {[]api.Part{plain(long), bound(of("n")), bound(zero)}, api.ErrEvalLong}, {[]api.Part{plain(long), bound(of("n")), bound(of("l"))}, api.ErrEvalLong},
		{[]api.Part{bound(of("long")), plain("x"), bound(zero)}, api.ErrEvalLong}, {[]api.Part{bound(of("long")), plain("x"), bound(of("l"))}, api.ErrEvalLong}, {[]api.Part{bound(of("l")), bound(zero)}, api.ErrEvalType}, {[]api.Part{bound(zero), bound(of("l"))}, api.ErrEvalZero}, {[]api.Part{bound(of("l")), plain(long), bound(of("n"))}, api.ErrEvalType},
		{[]api.Part{bound(op(api.ECat, of("long"), of("n")))}, api.ErrEvalLong}, {[]api.Part{bound(op(api.ECat, of("long"), of("l")))}, api.ErrEvalType},
	} {
		expectFault(t, list(parts(c.ps...)), state, c.code)
		expectFault(t, list(elem("p", text("y"), parts(c.ps...))), state, c.code)
	}
}

// TestP16_2Numbers: the number of an element is from 0 on, in keys and in kids alike, and an integer.
func TestP16_2Numbers(t *testing.T) {
	sum := op(api.EAdd, v(2), num(math.MaxInt64-2))
	expect(t, list(loop(v(0), sum, elem("b", hole(sum)))), row(null, null, null), "<b>9223372036854775805</b><b>9223372036854775806</b><b>9223372036854775807</b>")
	expectFault(t, list(loop(v(0), sum, elem("b"))), row(null, null, null, null), api.ErrEvalOver)
	expect(t, list(loop(v(0), op(api.ECat, index(v(0), v(2)), str("k")), elem("b", hole(op(api.ESame, index(v(0), v(2)), v(1)))))), row(whole(4), txt("x")), "<b>true</b><b>true</b>")
}
