package vm

import (
	"reflect"
	"slices"
	"strings"
	"testing"

	"stencil/api"
)

// wrongValues are values that may not be, by what is wrong.
func wrongValues() map[api.Errno]api.Value {
	deep := api.Value{Kind: api.KNull}
	for range api.MaxDepth {
		deep = api.Value{Kind: api.KList, List: []api.Value{deep}}
	}
	return map[api.Errno]api.Value{
		api.ErrValueKind: {}, api.ErrValueForm: {Kind: api.KStr, Str: "\xff"}, api.ErrValueDeep: deep,
		api.ErrValueLarge: {Kind: api.KList, List: slices.Repeat([]api.Value{{Kind: api.KNull}}, api.MaxItems)},
	}
}

// fault is a state and the error that it is refused with.
type fault struct {
	state string
	code  api.Errno
}

// right is a state that has what all codes here ask for, but for z.
const right = `{"b": true, "v": 1, "s": "x", "r": {"k": 1}, "l": [1, "1"], "n": 9223372036854775807}`

// evalFaults are all errors that a code can meet, and how.
func evalFaults() map[string]api.Errno {
	long := strings.Repeat("x", 3000)
	return map[string]api.Errno{
		"p0.z": api.ErrEvalPath, "p0.v.k": api.ErrEvalType, "p0.n + 1": api.ErrEvalOver, "p0.v / 0": api.ErrEvalZero, "p0.v << 64": api.ErrEvalShift, "p0.l[2]": api.ErrEvalIndex,
		"'" + long + "' ~ '" + long + "'": api.ErrEvalLong, "!p0.v": api.ErrEvalType, "p0.v && true": api.ErrEvalType, "p0.s ? 1 : 2": api.ErrEvalType,
	}
}

// asking are programs that ask for the value of a code, each at another kind of operation, or in another kind of block; beside it all goes well.
func asking() map[string]func(e string) api.Program {
	around := func(inside ...part) api.Program {
		return programOf(text("a"), elem("p", slices.Concat(inside, parts(text("z")))...), each("p0.l", "p1", elem("q", show("p1"))))
	}
	return map[string]func(e string) api.Program{
		"OpTextX":      func(e string) api.Program { return around(show(e)) },
		"OpAttrX":      func(e string) api.Program { return programOf(elem("p", bound("a", e)), text("z")) },
		"OpIf":         func(e string) api.Program { return around(either(e, parts(text("y")), nil)) },
		"OpFor's list": func(e string) api.Program { return around(each(e, "p1", elem("i"))) },
		"OpFor's key":  func(e string) api.Program { return around(each("p0.l", e, elem("i"))) },
		"OpWith":       func(e string) api.Program { return around(with([]string{"p0.v", e, "p0.z"}, text("y"))) },
		"OpLet":        func(e string) api.Program { return around(let(e), drop(1)) },
		"an OpIf's block": func(e string) api.Program {
			return around(either("p0.b", parts(text("y"), show(e)), parts(show("p0.z"))))
		},
		"an OpFor's block":  func(e string) api.Program { return around(each("p0.l", "p1", elem("i", text("y"), show(e)))) },
		"an OpWith's block": func(e string) api.Program { return around(with([]string{"p0.v"}, text("y"), show(e))) },
		"an element":        func(e string) api.Program { return around(elem("i", elem("u", attr("a", ""), bound("b", e)))) },
	}
}

// expectRefused holds that a state is refused with that error by a bare machine, which stays as it was and bare.
func expectRefused(t *testing.T, p api.Program, room int, v api.Value, code api.Errno) {
	t.Helper()
	w := newTwin(t, p, room)
	for range 2 {
		if got := w.mount(t, v); got != code {
			t.Fatalf("%s: %d, want %d", cut(v), got, code)
		}
	}
	if w.update(t, v) != api.ErrVmBare || w.unmount(t) != api.ErrVmBare {
		t.Fatal("it is not bare")
	}
}

// TestP23_2Faults: each error that a code may meet, at each kind of operation, of a bare machine and of one that shows another state.
func TestP23_2Faults(t *testing.T) {
	t.Parallel()
	v := datum(t, right)
	for kind, ask := range asking() {
		for e, code := range evalFaults() {
			expectRefused(t, ask(e), 100, v, code)
			// Where another state is shown, that was taken: in place of what is asked for, the code asks for a field that says what is to come.
			p := ask("p0.q ? (" + e + ") : p0.f")
			w := newTwin(t, p, 100)
			fits := `0`
			switch kind {
			case "OpIf":
				fits = `true`
			case "OpFor's list":
				fits = `[5, 6]`
			case "OpFor's key":
				continue
			}
			first := datum(t, strings.Replace(right, `"b"`, `"z": 0, "q": false, "f": `+fits+`, "b"`, 1))
			then := datum(t, strings.Replace(right, `"b"`, `"q": true, "f": `+fits+`, "b"`, 1))
			if w.mount(t, first) != api.OK || w.update(t, then) != code || w.update(t, first) != api.OK || w.update(t, then) != code || w.unmount(t) != api.OK {
				t.Errorf("%s, %s", kind, e)
			}
			// What is not listed is not reckoned, but for an OpLet.
			w = newTwin(t, listing(p, never), 100)
			if w.mount(t, first) != api.OK || (w.update(t, then) == code) != (kind == "OpLet") || w.unmount(t) != api.OK {
				t.Errorf("%s, %s: not listed", kind, e)
			}
		}
	}
}

// TestP23_2Kinds: what a code comes to that is not of the kind that its operation takes.
func TestP23_2Kinds(t *testing.T) {
	t.Parallel()
	values := []string{"null", "true", "false", "0", "-1", "''", "'true'", "p0.l", "p0.r", "p0"}
	takes := map[string]string{"OpTextX": "null true false 0 -1 '' 'true'", "OpAttrX": "null true false 0 -1 '' 'true'", "OpIf": "true false", "OpFor's list": "p0.l", "OpWith": strings.Join(values, " "), "OpLet": strings.Join(values, " "), "OpFor's key": "0 -1 '' 'true'"}
	for kind, ask := range asking() {
		for _, e := range values {
			code := api.OK
			if list, ok := takes[kind]; ok && !slices.Contains(strings.Fields(list), e) {
				code = api.ErrEvalType
			} else if !ok && strings.HasPrefix(e, "p0") {
				code = api.ErrEvalType
			}
			p := ask(e)
			if kind == "OpFor's key" && code == api.OK {
				code = api.ErrVmKey
			}
			w := newTwin(t, p, 100)
			if got := w.mount(t, datum(t, strings.Replace(right, `"b"`, `"z": 0, "b"`, 1))); got != code {
				t.Errorf("%s, %s: %d, want %d", kind, e, got, code)
			}
		}
	}
}

// TestP23_2Keys: which keys are the same, and that each error of a key is met in the row of the elements, ahead of all blocks.
func TestP23_2Keys(t *testing.T) {
	p := programOf(text("a"), each("p0.l", "p1.k", elem("b", show("p1.v"))))
	for list, code := range map[string]api.Errno{
		`{"k": 1, "v": 1}, {"k": "1", "v": 1}`: api.OK, `{"k": "", "v": 1}, {"k": 0, "v": 1}`: api.OK, `{"k": -1, "v": 1}, {"k": 1, "v": 1}`: api.OK, `{"k": "a", "v": 1}, {"k": "A", "v": 1}`: api.OK,
		`{"k": 1}, {"k": 1}`: api.ErrVmKey, `{"k": "a"}, {"k": "b"}, {"k": "a"}`: api.ErrVmKey, `{"k": 1}, {"k": 1}, {"k": null}`: api.ErrVmKey, `{"k": 1}, {"k": 1}, {}`: api.ErrVmKey,
		`{"k": 1}, {"k": null}, {"k": 1}`: api.ErrEvalType, `{"k": true}`: api.ErrEvalType, `{"k": []}, {"k": 1}, {"k": 1}`: api.ErrEvalType, `{"k": 1}, {}, {"k": 1}`: api.ErrEvalPath, `{"k": 1}, 7, {"k": 1}`: api.ErrEvalType,
		`{"k": 1}, {"k": 2, "v": 1}`: api.ErrEvalPath, `{"k": 1, "v": []}, {"k": 2}`: api.ErrEvalType, `{"k": 1, "v": []}, {"k": 1}`: api.ErrVmKey,
	} {
		v := datum(t, `{"l": [`+list+`]}`)
		w := newTwin(t, p, 20)
		if got := w.mount(t, v); got != code {
			t.Errorf("%s: %d, want %d", list, got, code)
		}
		w = newTwin(t, p, 20)
		w.mount(t, datum(t, `{"l": [{"k": 1, "v": 0}, {"k": "a", "v": 0}]}`))
		if got := w.update(t, v); got != code {
			t.Errorf("%s: %d, want %d", list, got, code)
		}
	}
}

// gate is a program of which each state is refused in another way.
func gate() api.Program {
	return programOf(elem("p", bound("a", "p0.v"), each("p0.l", "p1", elem("b", show("p1")))), quiet(show("p0.v")), let("p0.v"), either("p1 == 9", parts(elem("u", text("y"))), parts(text("n"))), drop(1))
}

// refusedStates are states that gate refuses in an arena of eleven handles, each by its error, all behind what would be shown otherwise.
func refusedStates(t *testing.T) map[api.Errno][]api.Value {
	t.Helper()
	out := map[api.Errno][]api.Value{
		api.ErrEvalPath: {datum(t, `{}`), datum(t, `{"v": 1}`), datum(t, `{"l": [1]}`)},
		api.ErrEvalType: {datum(t, `7`), datum(t, `null`), datum(t, `[]`), datum(t, `{"l": [1], "v": []}`), datum(t, `{"l": 1, "v": 1}`), datum(t, `{"l": [null], "v": 1}`), datum(t, `{"l": [1, true], "v": 1}`)},
		api.ErrVmKey:    {datum(t, `{"l": [1, 1], "v": 1}`), datum(t, `{"l": [1, 2, 3, "1", 3], "v": 1}`)},
		api.ErrVmFull:   {datum(t, `{"l": [1, 2, 3, 4], "v": 1}`), datum(t, `{"l": [9, 8, 7, 6, 5], "v": 9}`), numbers(2046)},
		// So many nodes are too many ahead of the arena's.
		api.ErrVmLarge: {numbers(2047), numbers(2048), numbers(4096)},
	}
	for code, v := range wrongValues() {
		out[code] = append(out[code], v)
		if code != api.ErrValueKind {
			out[code] = append(out[code], api.Value{Kind: api.KRec, Names: []string{"l", "v"}, List: []api.Value{v, {Kind: api.KInt}}})
		}
	}
	return out
}

// numbers is a state with a list l of so many numbers and a value v.
func numbers(count int) api.Value {
	list := api.Value{Kind: api.KList}
	for i := range count {
		list.List = append(list.List, api.Value{Kind: api.KInt, Int: i})
	}
	return api.Value{Kind: api.KRec, Names: []string{"l", "v"}, List: []api.Value{list, {Kind: api.KInt}}}
}

// gateSteps are states that gate takes, each from each other.
func gateSteps() []string {
	return []string{`{"l": [1, 2, 3], "v": 1}`, `{"l": [3, 1], "v": 9}`, `{"l": [4, 3, 2], "v": "z"}`, `{"l": [], "v": 9}`}
}

// TestP23_7Bare: each state that is refused, of a bare machine; it stays bare and as it was, and goes on as a new one.
func TestP23_7Bare(t *testing.T) {
	t.Parallel()
	for code, states := range refusedStates(t) {
		for _, v := range states {
			x, _ := New(gate(), 11)
			before := pictureOf(x)
			for range 2 {
				if got := x.Mount(v); got != code || !reflect.DeepEqual(pictureOf(x), before) {
					t.Errorf("%s: %d, want %d, %s", cut(v), got, code, cut(pictureOf(x)))
				}
			}
			if x.Update(v) != api.ErrVmBare || x.Unmount() != api.ErrVmBare || !reflect.DeepEqual(pictureOf(x), before) {
				t.Errorf("%s: it is not bare", cut(v))
			}
			smooth, _ := New(gate(), 11)
			expectAlike(t, []*Vm{x, smooth}, gateSteps())
		}
	}
}

// expectAlike holds that machines go alike from here on.
func expectAlike(t *testing.T, all []*Vm, states []string) {
	t.Helper()
	for _, s := range states {
		for _, x := range all {
			if x.Update(datum(t, s)) == api.ErrVmBare && x.Mount(datum(t, s)) != api.OK {
				t.Fatalf("%s is refused", s)
			}
		}
		if got, want := pictureOf(all[0]), pictureOf(all[1]); !reflect.DeepEqual(got, want) || len(want.cells) == len(want.free)+1 {
			t.Fatalf("behind %s: %s, want %s", s, cut(got), cut(want))
		}
	}
}

// TestP23_7Mounted: each state that is refused, of a machine that is mounted, ahead of each step; all goes on as if it had never been.
func TestP23_7Mounted(t *testing.T) {
	t.Parallel()
	steps := gateSteps()
	for code, states := range refusedStates(t) {
		for i, v := range states {
			x, _ := New(gate(), 11)
			smooth, _ := New(gate(), 11)
			expectAlike(t, []*Vm{x, smooth}, steps[:1])
			for _, s := range append(steps, steps...) {
				before := pictureOf(x)
				if got := x.Update(v); got != code || !reflect.DeepEqual(pictureOf(x), before) {
					t.Errorf("%d, state %d: %d, %s", code, i, got, cut(pictureOf(x)))
				}
				if x.Mount(v) != api.ErrVmMounted || x.Mount(datum(t, s)) != api.ErrVmMounted || !reflect.DeepEqual(pictureOf(x), before) {
					t.Errorf("%d, state %d: %s", code, i, cut(pictureOf(x)))
				}
				expectAlike(t, []*Vm{x, smooth}, []string{s})
			}
			if x.Update(v) != code || x.Unmount() != api.OK || smooth.Unmount() != api.OK || !reflect.DeepEqual(pictureOf(x), pictureOf(smooth)) {
				t.Errorf("%d, state %d: %s, want %s", code, i, cut(pictureOf(x)), cut(pictureOf(smooth)))
			}
			expectAlike(t, []*Vm{x, smooth}, steps)
		}
	}
}

// TestP23_7Unlisted: of a refused update nothing is kept, where it would not be seen but by a later one that leaves parts as they are.
func TestP23_7Unlisted(t *testing.T) {
	p := programOf(either("p0.b", parts(quiet(show("p0.v")), each("p0.l", "p1", elem("i", quiet(bound("a", "p0.v"))))), parts(quiet(either("p0.c", parts(text("c")), nil)))), show("p0.z"))
	states := []string{`{"b": true, "v": 1, "l": [1], "z": 0}`, `{"b": true, "v": 2, "l": [2, 1], "z": 0}`, `{"b": false, "c": false, "z": 0}`, `{"b": false, "c": true, "z": 0}`, `{"b": true, "v": 3, "l": [3], "z": 0}`}
	for _, first := range states {
		for _, refused := range states {
			for _, then := range states {
				x, _ := New(p, 20)
				smooth, _ := New(p, 20)
				expectAlike2(t, x, smooth, first)
				if x.Update(datum(t, strings.Replace(refused, `"z"`, `"u"`, 1))) != api.ErrEvalPath {
					t.Fatal("not refused")
				}
				expectAlike2(t, x, smooth, then)
				expectAlike2(t, x, smooth, first)
			}
		}
	}
}

// expectAlike2 holds that two machines take a state alike.
func expectAlike2(t *testing.T, x, smooth *Vm, s string) {
	expectAlike(t, []*Vm{x, smooth}, []string{s})
}

// TestP23_3Order: where several errors apply, that of being mounted or bare is told, then the value's, then the walk's first, then that of too many nodes.
func TestP23_3Order(t *testing.T) {
	p := programOf(show("p0.v"), each("p0.l", "p1", elem("b", bound("a", "p0.w"))), show("p0.u"), either("p0.t", nil, nil))
	for _, c := range []fault{
		{`{"l": [1, 2, 3, 4], "t": true, "u": 1, "v": 1, "w": 1}`, api.ErrVmFull},
		{`{"l": [1, 2, 3, 4], "t": 1, "u": 1, "v": 1, "w": 1}`, api.ErrEvalType},
		{`{"l": [1, 2, 3, 4], "t": 1, "v": 1, "w": 1}`, api.ErrEvalPath},
		{`{"l": [1, 2, 3, 4], "t": 1, "v": 1, "w": []}`, api.ErrEvalType},
		{`{"l": [1, 2, 3, 1], "t": 1, "v": 1, "w": []}`, api.ErrVmKey},
		{`{"l": [1, 2, 3, 1], "t": 1, "w": []}`, api.ErrEvalPath},
	} {
		w := newTwin(t, p, 5)
		v := datum(t, c.state)
		if w.update(t, v) != api.ErrVmBare || w.mount(t, v) != c.code || w.unmount(t) != api.ErrVmBare {
			t.Errorf("%s of a bare machine", c.state)
		}
		if w.mount(t, datum(t, `{"l": [], "t": true, "u": 1, "v": 1}`)) != api.OK || w.mount(t, v) != api.ErrVmMounted || w.update(t, v) != c.code {
			t.Errorf("%s of a mounted machine", c.state)
		}
	}
	for code, v := range wrongValues() {
		w := newTwin(t, p, 5)
		v = api.Value{Kind: api.KRec, Names: []string{"a", "b"}, List: []api.Value{v, {Kind: 7}}}
		if code == api.ErrValueKind {
			v.List[1].Kind = api.KNull
		}
		if w.update(t, v) != api.ErrVmBare || w.mount(t, v) != code || w.mount(t, datum(t, `{"l": [], "t": true, "u": 1, "v": 1}`)) != api.OK || w.mount(t, v) != api.ErrVmMounted || w.update(t, v) != code {
			t.Errorf("%d", code)
		}
	}
}

// TestR3Nil: of no machine each call answers ErrNil, or zero values.
func TestR3Nil(t *testing.T) {
	var x *Vm
	for _, v := range []api.Value{{}, datum(t, `{}`), datum(t, `{"l": [1], "v": 1}`)} {
		if x.Mount(v) != api.ErrNil || x.Update(v) != api.ErrNil || x.Unmount() != api.ErrNil {
			t.Error("no ErrNil")
		}
	}
	if len(x.Cells())+len(x.Free())+len(x.Forest()) != 0 || x.Counts() != (api.Counts{}) {
		t.Error("no zero values")
	}
}
