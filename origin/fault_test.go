package origin

import (
	"slices"
	"strings"
	"testing"

	"stencil/api"
	"stencil/render"
)

// expectFault holds that there is that error, which is Render's too, and nothing beside it.
func expectFault(t *testing.T, cs []api.Core, v api.Value, want api.Errno) {
	t.Helper()
	spots, loops, code := Trace(cs, v)
	if code != want || len(spots) != 0 || len(loops) != 0 {
		t.Errorf("%s of %s: %s, %s, %d, want %d", cut(cs), cut(v), cut(told(spots)), cut(toldLoops(loops)), code, want)
	}
	if _, other := render.Render(cs, v); other != code {
		t.Errorf("%s of %s: %d, Render %d", cut(cs), cut(v), code, other)
	}
}

// ahead are a text, elements and a loop, which make spots.
const ahead = `a<for each="x" :in="l" :key="x"><b>{{ x }}</b></for>`

// places are templates that meet E, each at another place; def d asks its prop for nothing.
func places() []string {
	return []string{
		`{{ E }}`, `x{{ 1 }}{{ E }}`, `<p :a="E"/>`, `<p a="" :b="1" :c="E">x</p>`, `<if :test="(E) == 0">x</if>`, `<for each="y" :in="E" :key="y"><p/></for>`, `<for each="y" :in="l" :key="E"><p/></for>`, `<d :p="E"/>`,
		`<p>x<q>{{ E }}</q></p>`, `<if :test="true">x{{ E }}</if>`, `<if :test="false"/><else>x{{ E }}</else>`, `<d p="">x{{ E }}</d>`,
		// At the second element of a loop alone, and at that of a loop in one.
		`<for each="y" at="i" :in="l" :key="i"><p>x{{ i == 1 ? (E) : 0 }}</p></for>`, `<for each="y" :in="l" :key="y"><p><for each="z" at="i" :in="l" :key="i == 1 ? (E) : 0"><q/></for></p></for>`,
	}
}

// TestP17_1Faults: each error of an expression at each place where one is met, alone and behind what has made spots and loops.
func TestP17_1Faults(t *testing.T) {
	long := strings.Repeat("x", api.MaxStr)
	state := datum(t, `{"l": [1, 2], "r": {}, "max": 9223372036854775807, "long": "`+long+`"}`)
	for e, code := range map[string]api.Errno{`-(l)`: api.ErrEvalType, `max + 1`: api.ErrEvalOver, `1 / 0`: api.ErrEvalZero, `1 << 64`: api.ErrEvalShift, `r.z`: api.ErrEvalPath, `none`: api.ErrEvalPath, `l[2]`: api.ErrEvalIndex, `long ~ 'x'`: api.ErrEvalLong} {
		for _, s := range places() {
			s = strings.ReplaceAll(s, "E", e)
			for _, whole := range []string{s, ahead + s, s + ahead, `<q>` + ahead + s + `</q>`} {
				expectFault(t, template(t, `<def name="d" props="p"><i><slot/></i></def>`+whole), state, code)
			}
		}
	}
}

// TestP17_1Types: what comes out is of no kind that the place takes, or too long there; and keys that are none or stand twice.
func TestP17_1Types(t *testing.T) {
	state := datum(t, `{"l": [1, 2], "r": {}, "n": null, "long": "`+strings.Repeat("x", api.MaxStr)+`", "e": [3, 3], "m": `+numbers(api.MaxNodes)+`}`)
	for s, code := range map[string]api.Errno{
		`{{ l }}`: api.ErrEvalType, `<p :a="r"/>`: api.ErrEvalType, `<if :test="n"/>`: api.ErrEvalType, `<if :test="1">x</if><else>y</else>`: api.ErrEvalType, `<for each="y" :in="n" :key="y"><p/></for>`: api.ErrEvalType, `<for each="y" :in="r" :key="y"><p/></for>`: api.ErrEvalType,
		`<for each="y" :in="l" :key="null"><p/></for>`: api.ErrEvalType, `<for each="y" :in="l" :key="y == 1"><p/></for>`: api.ErrEvalType, `<for each="y" :in="l" :key="l"><p/></for>`: api.ErrEvalType, `<for each="y" :in="l" :key="r"><p/></for>`: api.ErrEvalType, `<for each="y" :in="l" :key="y == 1 ? y : null"><p/></for>`: api.ErrEvalType,
		`<for each="y" :in="l" :key="0"><p/></for>`: api.ErrRenderKey, `<for each="y" :in="e" :key="y"><p>z</p></for>`: api.ErrRenderKey, `<for each="y" :in="l" :key="y"><p><for each="z" :in="e" :key="z"><q/></for></p></for>`: api.ErrRenderKey,
		`{{ long }}x`: api.ErrEvalLong, `x{{ long }}`: api.ErrEvalLong, `<for each="y" :in="m" :key="y"><p/></for>z`: api.ErrRenderLarge, `z<for each="y" :in="m" :key="y"><p/></for>`: api.ErrRenderLarge, `<p><for each="y" :in="m" :key="y"><p/></for></p>`: api.ErrRenderLarge,
	} {
		expectFault(t, template(t, s), state, code)
		expectFault(t, template(t, ahead+`<i>`+s+`</i>`), state, code)
	}
}

// wrongValues are values that may not be, by what is wrong.
func wrongValues() map[api.Errno]api.Value {
	deep := api.Value{Kind: api.KNull}
	for range api.MaxDepth {
		deep = api.Value{Kind: api.KList, List: []api.Value{deep}}
	}
	return map[api.Errno]api.Value{
		api.ErrValueKind: {}, api.ErrValueForm: {Kind: api.KStr, Str: "\xff"}, api.ErrValueDeep: deep,
		api.ErrValueLarge: {Kind: api.KList, List: slices.Repeat([]api.Value{{Kind: api.KNull}}, api.MaxItems)},
	}
}

// wrongCores are cores that may not be, by what is wrong.
func wrongCores() map[api.Errno][]api.Core {
	hole := func(e api.Expr) api.Core {
		return api.Core{Kind: api.CText, Parts: []api.Part{{Bound: true, Expr: e}}}
	}
	tall := api.Core{Kind: api.CElem, Tag: "p"}
	for range 2*api.MaxNest - 1 {
		tall = api.Core{Kind: api.CElem, Tag: "p", Kids: []api.Core{tall}}
	}
	return map[api.Errno][]api.Core{
		api.ErrCoreForm: {{Kind: api.CElem, Tag: "P"}}, api.ErrCoreExpr: {hole(api.Expr{Op: api.EAdd})}, api.ErrCoreName: {hole(api.Expr{Op: api.EVar, Int: 1})}, api.ErrCoreDeep: {tall},
		api.ErrCoreLarge: slices.Repeat([]api.Core{{Kind: api.CElem, Tag: "p"}}, api.MaxCore+1),
	}
}

// TestP17_1Wrong: what core.Check does not take, then what value.Check does not, then what the walk meets.
func TestP17_1Wrong(t *testing.T) {
	fine, bad := template(t, ahead), template(t, ahead+`{{ z }}`)
	state := datum(t, `{"l": [1, 2]}`)
	for code, cs := range wrongCores() {
		expectFault(t, cs, state, code)
		expectFault(t, slices.Concat(bad, cs), state, code)
		for _, v := range wrongValues() {
			expectFault(t, cs, v, code)
		}
	}
	for code, v := range wrongValues() {
		for _, cs := range [][]api.Core{nil, fine, bad} {
			expectFault(t, cs, v, code)
			if v.Kind != 0 {
				held := api.Value{Kind: api.KRec, Names: []string{"l", "z"}, List: []api.Value{state.List[0], v}}
				expectFault(t, cs, held, code)
			}
		}
	}
	expectFault(t, bad, state, api.ErrEvalPath)
	for _, kind := range []int{-1, 6, 99} {
		expectFault(t, []api.Core{{Kind: kind}}, state, api.ErrCoreForm)
		expectFault(t, fine, api.Value{Kind: kind + 1}, api.ErrValueKind)
	}
}
