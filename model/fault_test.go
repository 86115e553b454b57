package model

import (
	"reflect"
	"slices"
	"strings"
	"testing"

	"stencil/api"
)

// wrongValues are values that may not be, by what is wrong.
func wrongValues() map[api.Errno]api.Value {
	deep := api.Value{Kind: api.KNull}
	for range api.MaxDepth {
		deep = api.Value{Kind: api.KList, List: []api.Value{deep}}
	}
	return map[api.Errno]api.Value{
		api.ErrValueKind: {}, api.ErrValueForm: {Kind: api.KStr, Str: "\xff"}, api.ErrValueDeep: deep,
		api.ErrValueLarge: {Kind: api.KList, List: slices.Repeat([]api.Value{{Kind: api.KNull}}, api.MaxItems)},
	}
}

// wrongCores are cores that may not be, by what is wrong.
func wrongCores() map[api.Errno][]api.Core {
	hole := func(e api.Expr) api.Core {
		return api.Core{Kind: api.CText, Parts: []api.Part{{Bound: true, Expr: e}}}
	}
	tall := api.Core{Kind: api.CElem, Tag: "p"}
	for range 2*api.MaxNest - 1 {
		tall = api.Core{Kind: api.CElem, Tag: "p", Kids: []api.Core{tall}}
	}
	return map[api.Errno][]api.Core{
		api.ErrCoreForm: {{Kind: api.CElem, Tag: "P"}}, api.ErrCoreExpr: {hole(api.Expr{Op: api.EAdd})}, api.ErrCoreName: {hole(api.Expr{Op: api.EVar, Int: 1})}, api.ErrCoreDeep: {tall},
		api.ErrCoreLarge: slices.Repeat([]api.Core{{Kind: api.CElem, Tag: "p"}}, api.MaxCore+1),
	}
}

// asking is a template of which each state is refused in another way, by the expression e.
const asking = `<p :a="v"><for each="x" :in="l" :key="x"><b>{{ x }}</b></for></p>{{ v }}`

// refusedStates are states that are refused by asking in an arena of ten handles, each by its error. All of it is met behind what would be shown otherwise.
func refusedStates(t *testing.T) map[api.Errno][]api.Value {
	t.Helper()
	long := strings.Repeat("x", api.MaxStr)
	out := map[api.Errno][]api.Value{
		api.ErrEvalPath:  {datum(t, `{}`), datum(t, `{"v": 1}`), datum(t, `{"l": [1]}`)},
		api.ErrEvalType:  {datum(t, `7`), datum(t, `null`), datum(t, `[]`), datum(t, `{"l": [1], "v": []}`), datum(t, `{"l": 1, "v": 1}`), datum(t, `{"l": [null], "v": 1}`), datum(t, `{"l": [1, true], "v": 1}`)},
		api.ErrRenderKey: {datum(t, `{"l": [1, 1], "v": 1}`), datum(t, `{"l": [1, 2, 3, "1", 3], "v": 1}`)},
		api.ErrModelFull: {datum(t, `{"l": [1, 2, 3, 4], "v": 1}`), datum(t, `{"l": [9, 8, 7, 6, 5, "`+long+`"], "v": 1}`), numberedWith(api.MaxNodes/2 - 1)},
		// A text too long, and nodes too many, are Trace's ahead of the arena's.
		api.ErrRenderLarge: {numberedWith(api.MaxNodes / 2), numberedWith(api.MaxNodes)},
	}
	for code, v := range wrongValues() {
		out[code] = append(out[code], v)
		if code != api.ErrValueKind {
			out[code] = append(out[code], api.Value{Kind: api.KRec, Names: []string{"l", "v"}, List: []api.Value{v, {Kind: api.KInt}}})
		}
	}
	return out
}

// numberedWith has a list of so many numbers and a value.
func numberedWith(count int) api.Value {
	v := numbered(0, count)
	return api.Value{Kind: api.KRec, Names: []string{"l", "v"}, List: []api.Value{v.List[0], {Kind: api.KInt}}}
}

// TestP19_2Refused: each state that is refused, of a bare model; it stays bare and as it was.
func TestP19_2Refused(t *testing.T) {
	cs := template(t, asking)
	for code, states := range refusedStates(t) {
		for i, v := range states {
			x, _ := New(cs, 10)
			before := pictureOf(x)
			for range 2 {
				if got := x.Mount(v); got != code || !reflect.DeepEqual(pictureOf(x), before) {
					t.Errorf("%d, state %d: %d, %s", code, i, got, cut(pictureOf(x)))
				}
			}
			if x.Update(v) != api.ErrModelBare || x.Unmount() != api.ErrModelBare || !reflect.DeepEqual(pictureOf(x), before) {
				t.Errorf("%d, state %d: it is not bare", code, i)
			}
			expectAfter(t, x, cs, 10)
		}
	}
}

// expectAfter holds that a model of a bare arena goes on as a new one.
func expectAfter(t *testing.T, x *Model, cs []api.Core, room int) {
	t.Helper()
	fresh, _ := New(cs, room)
	for _, s := range []string{`{"l": [1, 2, 3], "v": 1}`, `{"l": [3, 1], "v": null}`, `{"l": [4, 3, 2], "v": "z"}`} {
		for _, one := range []*Model{x, fresh} {
			if one.Update(datum(t, s)) == api.ErrModelBare {
				one.Mount(datum(t, s))
			}
		}
		if got, want := pictureOf(x), pictureOf(fresh); !reflect.DeepEqual(got, want) || len(want.free) == room-1 {
			t.Fatalf("behind %s: %s, want %s", s, cut(got), cut(want))
		}
	}
}

// TestP19_3Refused: each state that is refused, of a model that is mounted, ahead of each step; all goes on as if it had never been.
func TestP19_3Refused(t *testing.T) {
	cs := template(t, asking)
	steps := []string{`{"l": [1, 2, 3], "v": 1}`, `{"l": [3, 1], "v": null}`, `{"l": [4, 3, 2], "v": "z"}`}
	for code, states := range refusedStates(t) {
		for i, v := range states {
			x, _ := New(cs, 10)
			smooth, _ := New(cs, 10)
			x.Mount(datum(t, steps[0]))
			smooth.Mount(datum(t, steps[0]))
			for _, s := range steps {
				before := pictureOf(x)
				if got := x.Update(v); got != code || !reflect.DeepEqual(pictureOf(x), before) {
					t.Errorf("%d, state %d: %d, %s", code, i, got, cut(pictureOf(x)))
				}
				if x.Mount(v) != api.ErrModelMounted || x.Mount(datum(t, s)) != api.ErrModelMounted || !reflect.DeepEqual(pictureOf(x), before) {
					t.Errorf("%d, state %d: %s", code, i, cut(pictureOf(x)))
				}
				if x.Update(datum(t, s)) != api.OK || smooth.Update(datum(t, s)) != api.OK || !reflect.DeepEqual(pictureOf(x), pictureOf(smooth)) {
					t.Errorf("%d, state %d: %s, want %s", code, i, cut(pictureOf(x)), cut(pictureOf(smooth)))
				}
			}
			if x.Update(v) != code || x.Unmount() != api.OK || smooth.Unmount() != api.OK || !reflect.DeepEqual(pictureOf(x), pictureOf(smooth)) {
				t.Errorf("%d, state %d: %s, want %s", code, i, cut(pictureOf(x)), cut(pictureOf(smooth)))
			}
		}
	}
}

// TestP19_3Order: where several errors apply, that of being mounted or bare is told, then Trace's, then that of too many nodes.
func TestP19_3Order(t *testing.T) {
	w := newTwin(t, template(t, asking), 4)
	many := `{"l": [1, 2], "v": 1}`
	for _, c := range []struct {
		state string
		mount api.Errno
	}{{many, api.ErrModelFull}, {`{"l": [1, 2]}`, api.ErrEvalPath}, {`{"l": [1, 1], "v": 1}`, api.ErrRenderKey}, {`7`, api.ErrEvalType}} {
		v := datum(t, c.state)
		if w.update(t, v) != api.ErrModelBare || w.mount(t, v) != c.mount || w.unmount(t) != api.ErrModelBare {
			t.Errorf("%s of a bare model", c.state)
		}
	}
	if w.mount(t, datum(t, `{"l": [], "v": 1}`)) != api.OK {
		t.Fatal("not mounted")
	}
	for _, c := range []struct {
		state  string
		update api.Errno
	}{{many, api.ErrModelFull}, {`{"l": [1, 2]}`, api.ErrEvalPath}, {`{"l": [1, 1], "v": 1}`, api.ErrRenderKey}, {`7`, api.ErrEvalType}} {
		v := datum(t, c.state)
		if w.mount(t, v) != api.ErrModelMounted || w.update(t, v) != c.update {
			t.Errorf("%s of a mounted model", c.state)
		}
	}
}

// TestR3Nil: of no model each call answers ErrNil, or zero values.
func TestR3Nil(t *testing.T) {
	var x *Model
	for _, v := range []api.Value{{}, datum(t, `{}`), datum(t, `{"l": [1], "v": 1}`)} {
		if x.Mount(v) != api.ErrNil || x.Update(v) != api.ErrNil || x.Unmount() != api.ErrNil {
			t.Error("no ErrNil")
		}
	}
	if len(x.Cells())+len(x.Free())+len(x.Forest()) != 0 || x.Counts() != (api.Counts{}) {
		t.Error("no zero values")
	}
}
