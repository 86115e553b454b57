package vm

import (
	"maps"
	"reflect"
	"slices"
	"strings"
	"sync"
	"testing"
	"time"
	"unsafe"

	"stencil/api"
	"stencil/verify"
)

// Lists of anything, and what lies behind their ends.

// visit calls met with each list that lies in x, the inner ones behind those that hold them.
func visit(x reflect.Value, met func(list reflect.Value)) {
	switch x.Kind() {
	case reflect.Struct:
		for i := range x.NumField() {
			visit(x.Field(i), met)
		}
	case reflect.Slice:
		met(x)
		for i := range x.Len() {
			visit(x.Index(i), met)
		}
	}
}

// relisted is a copy of x in which each list is what copied makes of it.
func relisted[T any](x T, copied func(list reflect.Value) reflect.Value) T {
	visit(reflect.ValueOf(&x).Elem(), func(list reflect.Value) { list.Set(copied(list)) })
	return x
}

// roomy is a copy of a list with room for two more, which holds marks.
func roomy(list reflect.Value) reflect.Value {
	out := reflect.MakeSlice(list.Type(), list.Len()+2, list.Len()+2)
	reflect.Copy(out, list)
	for i := list.Len(); i < out.Len(); i++ {
		mark(out.Index(i))
	}
	return out.Slice(0, list.Len())
}

// mark fills all numbers and texts.
func mark(x reflect.Value) {
	switch x.Kind() {
	case reflect.Int:
		x.SetInt(77)
	case reflect.Bool:
		x.SetBool(true)
	case reflect.String:
		x.SetString("mark")
	case reflect.Struct:
		for i := range x.NumField() {
			mark(x.Field(i))
		}
	}
}

// opened is a copy of a list to the end of its room.
func opened(list reflect.Value) reflect.Value {
	if list.IsNil() {
		return list
	}
	out := reflect.MakeSlice(list.Type(), list.Cap(), list.Cap())
	reflect.Copy(out, list.Slice(0, list.Cap()))
	return out
}

// cells counts the cells of all lists in x by their addresses, those of their room too.
func cells(x any, met map[unsafe.Pointer]int) {
	visit(reflect.ValueOf(x), func(list reflect.Value) {
		all := list.Slice(0, list.Cap())
		for i := range all.Len() {
			met[all.Index(i).Addr().UnsafePointer()]++
		}
	})
}

// spoil overwrites the cells of all lists in x, to the ends of their room.
func spoil(x any) {
	var all []reflect.Value
	visit(reflect.ValueOf(x), func(list reflect.Value) { all = append(all, list.Slice(0, list.Cap())) })
	for _, list := range all {
		for i := range list.Len() {
			mark(list.Index(i))
		}
	}
}

// broken is a copy of x of which one thing is another one.
func broken[T any](m *maker, x T) T {
	out := relisted(x, func(list reflect.Value) reflect.Value {
		return reflect.AppendSlice(reflect.MakeSlice(list.Type(), 0, list.Len()), list)
	})
	var all []reflect.Value
	var gather func(reflect.Value)
	gather = func(x reflect.Value) {
		switch x.Kind() {
		case reflect.Struct:
			for i := range x.NumField() {
				gather(x.Field(i))
			}
			return
		case reflect.Slice:
			for i := range x.Len() {
				gather(x.Index(i))
			}
		}
		all = append(all, x)
	}
	gather(reflect.ValueOf(&out).Elem())
	one := all[m.Intn(len(all))]
	switch one.Kind() {
	case reflect.Int:
		one.SetInt(int64([]int{-1, 0, 1, 2, 3, 4, 5, 6, 9, 31, 1 << 40}[m.Intn(11)]))
	case reflect.Bool:
		one.SetBool(!one.Bool())
	case reflect.String:
		one.SetString(m.word("", "p", "P", "\xff", "s", "zz"))
	case reflect.Slice:
		if n := one.Len(); n > 0 && m.chance(2) {
			one.Set(one.Slice(0, n-1))
		} else if n > 0 {
			one.Set(reflect.Append(one, one.Index(m.Intn(n))))
		} else {
			one.Set(reflect.MakeSlice(one.Type(), 1, 1))
		}
	}
	return out
}

// TestR1Any: whatever is handed in, there is an answer, and it is the one that was asked for.
func TestR1Any(t *testing.T) {
	t.Parallel()
	m, met := newMaker(237), map[api.Errno]int{}
	for i := range 1600 {
		m.still = i % 70
		p := m.program(3 + i%2)
		if i%2 == 0 {
			p = broken(m, p)
		}
		if _, code := New(p, 50); code != api.OK {
			newTwin(t, p, 50)
			met[code]++
			continue
		}
		w := newTwin(t, p, 50)
		m.run(t, w, 6, func() api.Value {
			v := datum(t, m.record(1, 0))
			if m.chance(2) {
				v = broken(m, v)
			}
			return v
		}, met)
	}
	for _, code := range []api.Errno{api.OK, api.ErrVerifyOp, api.ErrVerifyText, api.ErrVerifyCode, api.ErrVerifyShape, api.ErrVerifyBlock, api.ErrVerifyUpdate, api.ErrVerifyDepth, api.ErrValueKind, api.ErrValueForm, api.ErrEvalType, api.ErrEvalPath} {
		if met[code] == 0 {
			t.Errorf("%d was never met: %v", code, met)
		}
	}
}

// TestR1Zero: a machine that New did not make shows nothing, and has no room.
func TestR1Zero(t *testing.T) {
	x := new(Vm)
	for range 2 {
		if x.Mount(datum(t, `{}`)) != api.ErrVmFull || x.Mount(api.Value{}) != api.ErrValueKind || x.Update(datum(t, `{}`)) != api.ErrVmBare || x.Unmount() != api.ErrVmBare {
			t.Error("it is not bare and full")
		}
		if len(x.Cells())+len(x.Free())+len(x.Forest()) != 0 || x.Counts() != (api.Counts{}) {
			t.Error("it holds something")
		}
	}
}

// TestR1Empty: lists that are empty or nil, wherever one may be.
func TestR1Empty(t *testing.T) {
	for _, p := range []api.Program{
		{Blocks: []api.Block{{Depth: 1}}}, {Texts: []string{}, Codes: [][]api.Inst{}, Statics: []api.Tree{}, Blocks: []api.Block{{Depth: 1, Ops: []api.Op{}, Update: []int{}}}},
		{Texts: []string{"p"}, Blocks: []api.Block{{Depth: 1, Ops: []api.Op{{Kind: api.OpOpen, List: []int{}}, {Kind: api.OpClose}, {Kind: api.OpWith, C: 1}}, Update: []int{0, 1, 2}}, {Depth: 1}}},
	} {
		w := newTwin(t, p, 3)
		for _, v := range []api.Value{{Kind: api.KNull}, {Kind: api.KRec}, {Kind: api.KList, List: []api.Value{}}} {
			if w.mount(t, v) != api.OK || w.update(t, v) != api.OK || w.unmount(t) != api.OK {
				t.Error("refused")
			}
		}
	}
}

// TestR1Shared: what lies in itself many times over is not all gone through.
func TestR1Shared(t *testing.T) {
	tree, v := api.Tree{Tag: "p"}, api.Value{Kind: api.KNull}
	for range 4000 {
		tree = api.Tree{Tag: "p", Kids: []api.Tree{tree, tree}}
		v = api.Value{Kind: api.KList, List: []api.Value{v, v}}
	}
	if x, code := New(programOf(static(tree)), 5); x != nil || code != api.ErrVerifyTree {
		t.Error(code)
	}
	x, _ := New(programOf(), 5)
	if code := x.Mount(v); code != api.ErrValueDeep {
		t.Error(code)
	}
}

// sizedPrograms are programs of which each element of l makes as much as each other.
func sizedPrograms() map[string]api.Program {
	return map[string]api.Program{
		"elements":    programOf(each("p0.l", "p1", elem("b"))),
		"texts":       programOf(elem("ul", each("p0.l", "p1", elem("li", bound("a", "p2"), show("p2"))))),
		"statics":     programOf(each("p0.l", "p1", static(wide(2)))),
		"empty loops": programOf(each("p0.l", "p1", elem("p", times(5, each("p0.m", "$2", elem("b")))))),
		"ifs":         programOf(each("p0.l", "p1", elem("p", times(9, either("p1 < 0", parts(text("x")), nil)), either("p2 % 2 == 0", parts(text("y")), parts(text("z")))))),
		"with":        programOf(each("p0.l", "p1", elem("p", with([]string{"p1", "p2"}, let("$1 + 1"), show("$1"), drop(1))))),
		"left":        programOf(each("p0.l", "p1", elem("p", quiet(either("true", parts(elem("q", show("p1"))), nil))))),
	}
}

// sizedStates are pairs of states of so many elements.
func sizedStates(count int) map[string][2]api.Value {
	state := func(list []api.Value) api.Value {
		return api.Value{Kind: api.KRec, Names: []string{"l", "m"}, List: []api.Value{{Kind: api.KList, List: list}, {Kind: api.KList}}}
	}
	list := numbers(2 * count).List[0].List
	first, others := list[:count], list[count:]
	back := slices.Clone(first)
	slices.Reverse(back)
	return map[string][2]api.Value{
		"the same": {state(first), state(first)}, "turned": {state(first), state(slices.Concat(first[count/2:], first[:count/2]))}, "back": {state(first), state(back)}, "others": {state(first), state(others)}, "none": {state(first), state(nil)},
	}
}

// spent is the least time that so many calls take.
func spent(n int, call func()) time.Duration {
	least := time.Hour
	for range 5 {
		begun := time.Now()
		for range n {
			call()
		}
		least = min(least, time.Since(begun))
	}
	return least
}

// TestR1Time: what is fifteen times as large takes about fifteen times as long.
func TestR1Time(t *testing.T) {
	for name, p := range sizedPrograms() {
		small, large := sizedStates(85), sizedStates(1275)
		for kind := range small {
			run := func(states [2]api.Value) func() {
				return func() {
					x, _ := New(p, api.MaxRoom)
					x.Mount(states[0])
					if x.Update(states[1]) != api.OK || x.Update(states[0]) != api.OK || x.Unmount() != api.OK {
						panic(name)
					}
				}
			}
			short, long := spent(15, run(small[kind])), spent(1, run(large[kind]))
			if long > 8*short+20*time.Millisecond {
				t.Errorf("%s, %s: %v, fifteen of a fifteenth %v", name, kind, long, short)
			}
		}
	}
}

// TestR1Many: millions of operations that leave nothing, in a loop of thousands of elements, and codes that are long.
func TestR1Many(t *testing.T) {
	t.Parallel()
	long := strings.Repeat("p1 + ", 200) + "0"
	for name, inside := range map[string]part{
		"nothing": times(150, either("p1 < 0", parts(text("x")), nil)), "empty": times(150, either("p1 < 0", nil, parts(quiet()))), "loops": times(150, each("p0.m", "$2", elem("b"))), "uses": times(150, with(nil)), "long": times(10, either(long+" < 0", nil, nil)),
		"lets": times(150, func(m *making) {
			let("p1")(m)
			drop(1)(m)
		}),
	} {
		states := sizedStates(4000)["back"]
		begun := time.Now()
		x := expectMount(t, programOf(each("p0.l", "p1", elem("p", inside))), states[0], api.OK)
		if x.Update(states[1]) != api.OK || x.Update(states[0]) != api.OK || x.Counts().Moved != 2*3999 {
			t.Errorf("%s: %+v", name, x.Counts())
		}
		if time.Since(begun) > 30*time.Second {
			t.Errorf("%s: %v", name, time.Since(begun))
		}
	}
}

// sample is a program that has all kinds of operations, listed and not, with states that fit it.
func sample(t *testing.T) (api.Program, []api.Value) {
	t.Helper()
	p := programOf(
		elem("u", attr("a", "0"), bound("b", "p0.k"), quiet(bound("c", "p0.k")), show("len(p0.l)")),
		each("p0.l", "p1", elem("i", show("p2"), quiet(with([]string{"p1"}, show("$1"))))),
		either("p0.b", parts(static(wide(3)), let("p0.k"), show("p1"), drop(1)), parts(text("z"), quiet(each("p0.l", "p1", static(wide(2)))))),
	)
	return p, []api.Value{datum(t, `{"l": ["x", 2, "z"], "b": false, "k": 1}`), datum(t, `{"l": ["z", 3, "x", 2], "b": false, "k": "v"}`), datum(t, `{"l": [3], "b": true, "k": null}`), datum(t, `{"l": [3, 1], "b": true, "k": "w"}`)}
}

// TestR4ArgumentsStay: nothing that is handed in is changed, nor the room of its lists, whether it may be or not.
func TestR4ArgumentsStay(t *testing.T) {
	t.Parallel()
	m := newMaker(238)
	for i := range 120 {
		m.off = i % 4
		given := relisted(m.program(4), roomy)
		if i%5 == 0 {
			given = relisted(broken(m, given), roomy)
		}
		before := relisted(given, opened)
		x, _ := New(given, 300)
		for j := range 6 {
			state := relisted(datum(t, m.record(2, 0)), roomy)
			if j == 4 {
				state = relisted(broken(m, state), roomy)
			}
			held := relisted(state, opened)
			x.Mount(state)
			x.Update(state)
			if !reflect.DeepEqual(relisted(given, opened), before) || !reflect.DeepEqual(relisted(state, opened), held) {
				t.Fatalf("changed: %s of %s", cut(given), cut(state))
			}
		}
	}
}

// TestR4NothingKept overwrites the program behind New, and each state behind its call: all goes on as if they were still there.
func TestR4NothingKept(t *testing.T) {
	p, states := sample(t)
	w := newTwin(t, p, 60)
	given, _ := sample(t)
	given = relisted(given, roomy)
	x, _ := New(given, 60)
	spoil(given)
	w.mount(t, states[0])
	for i, v := range slices.Concat(states, states, states[:2]) {
		own := relisted(v, roomy)
		if i == 0 {
			x.Mount(own)
		} else {
			x.Update(own)
			w.update(t, v)
		}
		spoil(own)
		if got, want := pictureOf(x), pictureOf(w.x); !reflect.DeepEqual(got, want) {
			t.Fatalf("step %d: %s, want %s", i, cut(got), cut(want))
		}
	}
	x.Unmount()
	w.unmount(t)
	if got, want := pictureOf(x), pictureOf(w.x); !reflect.DeepEqual(got, want) {
		t.Errorf("%s, want %s", cut(got), cut(want))
	}
}

// TestR4NewMemory: no two lists of one answer, nor of two, share memory, their room neither.
func TestR4NewMemory(t *testing.T) {
	p, states := sample(t)
	x, _ := New(p, 60)
	x.Mount(states[0])
	met := map[unsafe.Pointer]int{}
	// All answers are held, so that no address is given twice.
	var all []any
	for _, v := range states {
		x.Update(v)
		for range 3 {
			all = append(all, x.Cells(), x.Free(), x.Forest())
		}
	}
	for _, one := range append(all, any(p), any(states)) {
		cells(one, met)
	}
	if len(met) < 1000 {
		t.Errorf("only %d cells", len(met))
	}
	for _, n := range met {
		if n != 1 {
			t.Fatalf("a cell lies in %d lists", n)
		}
	}
}

// TestR4AnswersSpoilt overwrites what is answered: what the machine holds does not change by it.
func TestR4AnswersSpoilt(t *testing.T) {
	p, states := sample(t)
	w := newTwin(t, p, 60)
	w.mount(t, states[0])
	for _, v := range slices.Concat(states, states) {
		spoil(w.x.Cells())
		spoil(w.x.Free())
		spoil(w.x.Forest())
		w.expect(t, "spoiling")
		w.update(t, v)
	}
	w.unmount(t)
}

// TestR5TwoMachines: two machines of one program, called in turns, do not touch one another, nor do those of others.
func TestR5TwoMachines(t *testing.T) {
	t.Parallel()
	m, met := newMaker(239), map[api.Errno]int{}
	m.still = 20
	for i := range 40 {
		p := m.program(4)
		twins := []twin{newTwin(t, p, 100), newTwin(t, p, 100), newTwin(t, m.program(3), 40)}
		for range 20 {
			m.run(t, twins[m.Intn(3)], 1, func() api.Value { return datum(t, m.record(1+i%2, 0)) }, met)
			for _, w := range twins {
				w.expect(t, "a call of another")
			}
		}
	}
	if met[api.OK] < 300 {
		t.Errorf("%v", met)
	}
}

// TestR5Alike: equal calls of two machines answer alike, whatever was asked of others ahead.
func TestR5Alike(t *testing.T) {
	p, states := sample(t)
	for _, wrong := range wrongPrograms() {
		New(wrong, 60)
		New(p, 0)
		second, _ := New(p, 60)
		first, _ := New(p, 60)
		first.Mount(states[0])
		second.Mount(states[0])
		for _, v := range slices.Concat(states, slices.Collect(maps.Values(wrongValues())), states) {
			if a, b := first.Update(v), second.Update(v); a != b || !reflect.DeepEqual(pictureOf(first), pictureOf(second)) {
				t.Fatalf("%d, %d: %s, %s", a, b, cut(pictureOf(first)), cut(pictureOf(second)))
			}
		}
	}
}

// TestR5Goroutines: machines that are made and called at one time, of one program and one list of states, answer as one by one.
func TestR5Goroutines(t *testing.T) {
	p, states := sample(t)
	w := newTwin(t, p, 60)
	var want []picture
	w.mount(t, states[0])
	for _, v := range states {
		w.update(t, v)
		want = append(want, pictureOf(w.x))
	}
	var group sync.WaitGroup
	for range 8 {
		group.Go(func() {
			for range 50 {
				x, _ := New(p, 60)
				x.Mount(states[0])
				for i, v := range states {
					if code := x.Update(v); code != api.OK || !reflect.DeepEqual(pictureOf(x), want[i]) {
						t.Errorf("%d, %s", code, cut(pictureOf(x)))
					}
				}
			}
		})
	}
	group.Wait()
}

// TestSample: what is a sample here has all kinds of operations, and may be run.
func TestSample(t *testing.T) {
	p, _ := sample(t)
	met := map[int]int{}
	for _, b := range p.Blocks {
		for _, op := range b.Ops {
			met[op.Kind]++
		}
	}
	if _, _, code := verify.Verify(p); code != api.OK || len(met) != 12 {
		t.Errorf("%d, %v", code, met)
	}
}
