package model

import (
	"maps"
	"reflect"
	"slices"
	"strings"
	"sync"
	"testing"
	"time"
	"unsafe"

	"stencil/api"
)

// Lists of anything, and what lies behind their ends.

// visit calls met with each list that lies in x, the inner ones behind those that hold them.
func visit(x reflect.Value, met func(list reflect.Value)) {
	switch x.Kind() {
	case reflect.Struct:
		for i := range x.NumField() {
			visit(x.Field(i), met)
		}
	case reflect.Slice:
		met(x)
		for i := range x.Len() {
			visit(x.Index(i), met)
		}
	}
}

// with is a copy of x in which each list is what copied makes of it.
func with[T any](x T, copied func(list reflect.Value) reflect.Value) T {
	visit(reflect.ValueOf(&x).Elem(), func(list reflect.Value) { list.Set(copied(list)) })
	return x
}

// roomy is a copy of a list with room for two more, which holds marks.
func roomy(list reflect.Value) reflect.Value {
	out := reflect.MakeSlice(list.Type(), list.Len()+2, list.Len()+2)
	reflect.Copy(out, list)
	for i := list.Len(); i < out.Len(); i++ {
		mark(out.Index(i))
	}
	return out.Slice(0, list.Len())
}

// mark fills all numbers and texts.
func mark(x reflect.Value) {
	switch x.Kind() {
	case reflect.Int:
		x.SetInt(77)
	case reflect.Bool:
		x.SetBool(true)
	case reflect.String:
		x.SetString("mark")
	case reflect.Struct:
		for i := range x.NumField() {
			mark(x.Field(i))
		}
	}
}

// opened is a copy of a list to the end of its room.
func opened(list reflect.Value) reflect.Value {
	if list.IsNil() {
		return list
	}
	out := reflect.MakeSlice(list.Type(), list.Cap(), list.Cap())
	reflect.Copy(out, list.Slice(0, list.Cap()))
	return out
}

// cells counts the cells of all lists in x by their addresses, those of their room too.
func cells(x any, met map[unsafe.Pointer]int) {
	visit(reflect.ValueOf(x), func(list reflect.Value) {
		all := list.Slice(0, list.Cap())
		for i := range all.Len() {
			met[all.Index(i).Addr().UnsafePointer()]++
		}
	})
}

// spoil overwrites the cells of all lists in x, to the ends of their room.
func spoil(x any) {
	var all []reflect.Value
	visit(reflect.ValueOf(x), func(list reflect.Value) { all = append(all, list.Slice(0, list.Cap())) })
	for _, list := range all {
		for i := range list.Len() {
			mark(list.Index(i))
		}
	}
}

// broken is a copy of x of which one thing is another one.
func broken[T any](m *maker, x T) T {
	out := with(x, func(list reflect.Value) reflect.Value {
		return reflect.AppendSlice(reflect.MakeSlice(list.Type(), 0, list.Len()), list)
	})
	var all []reflect.Value
	var gather func(reflect.Value)
	gather = func(x reflect.Value) {
		switch x.Kind() {
		case reflect.Struct:
			for i := range x.NumField() {
				gather(x.Field(i))
			}
			return
		case reflect.Slice:
			for i := range x.Len() {
				gather(x.Index(i))
			}
		}
		all = append(all, x)
	}
	gather(reflect.ValueOf(&out).Elem())
	one := all[m.Intn(len(all))]
	switch one.Kind() {
	case reflect.Int:
		one.SetInt(int64([]int{-1, 0, 1, 2, 3, 4, 5, 6, 9, 31, 1 << 40}[m.Intn(11)]))
	case reflect.Bool:
		one.SetBool(!one.Bool())
	case reflect.String:
		one.SetString(m.word("", "p", "P", "\xff", "s", "zz"))
	case reflect.Slice:
		if n := one.Len(); n > 0 && m.chance(2) {
			one.Set(one.Slice(0, n-1))
		} else if n > 0 {
			one.Set(reflect.Append(one, one.Index(m.Intn(n))))
		} else {
			one.Set(reflect.MakeSlice(one.Type(), 1, 1))
		}
	}
	return out
}

// TestR1Any: whatever is handed in, there is an answer, and it is the one that was asked for.
func TestR1Any(t *testing.T) {
	t.Parallel()
	m, met := newMaker(198), map[api.Errno]int{}
	for i := range 250 {
		cs := m.cores(t, 3)
		if i%2 == 0 {
			cs = broken(m, cs)
		}
		if _, code := New(cs, 50); code != api.OK {
			newTwin(t, cs, 50)
			met[code]++
			continue
		}
		w := newTwin(t, cs, 50)
		m.run(t, w, 12, func() api.Value {
			v := datum(t, `{"s": `+m.record(1, 0)+`}`)
			if m.chance(2) {
				v = broken(m, v)
			}
			return v
		}, met)
	}
	for _, code := range []api.Errno{api.OK, api.ErrCoreForm, api.ErrCoreExpr, api.ErrCoreName, api.ErrValueKind, api.ErrValueForm, api.ErrEvalType, api.ErrEvalPath} {
		if met[code] == 0 {
			t.Errorf("%d was never met: %v", code, met)
		}
	}
}

// TestR1Zero: a model that New did not make holds nothing, and has no room.
func TestR1Zero(t *testing.T) {
	x := new(Model)
	for range 2 {
		if x.Mount(datum(t, `{}`)) != api.ErrModelFull || x.Mount(api.Value{}) != api.ErrValueKind || x.Update(datum(t, `{}`)) != api.ErrModelBare || x.Unmount() != api.ErrModelBare {
			t.Error("it is not bare and full")
		}
		if len(x.Cells())+len(x.Free())+len(x.Forest()) != 0 || x.Counts() != (api.Counts{}) {
			t.Error("it holds something")
		}
	}
}

// TestR1Shared: what lies in itself many times over is not all gone through.
func TestR1Shared(t *testing.T) {
	cs, v := []api.Core{{Kind: api.CElem, Tag: "p"}}, api.Value{Kind: api.KNull}
	for range 4000 {
		cs = []api.Core{{Kind: api.CWith, Kids: cs}, {Kind: api.CWith, Kids: cs}}
		v = api.Value{Kind: api.KList, List: []api.Value{v, v}}
	}
	if x, code := New(cs, 5); x != nil || code != api.ErrCoreLarge {
		t.Error(code)
	}
	x, _ := New(nil, 5)
	if code := x.Mount(v); code != api.ErrValueDeep {
		t.Error(code)
	}
}

// TestR1Deep: the deepest tree that a core may be comes, goes and is changed.
func TestR1Deep(t *testing.T) {
	inner := []api.Core{{Kind: api.CText, Parts: []api.Part{{Bound: true, Expr: api.Expr{Op: api.EVar}}}}}
	for range 2*api.MaxNest - 1 {
		inner = []api.Core{{Kind: api.CElem, Tag: "p", Kids: inner}}
	}
	w := newTwin(t, inner, 2*api.MaxNest+1)
	for i, s := range []string{`1`, `2`, `"x"`} {
		v := datum(t, s)
		if i == 0 && w.mount(t, v) != api.OK || i > 0 && w.update(t, v) != api.OK {
			t.Fatal("refused")
		}
	}
	if n := w.x.Counts(); n != (api.Counts{Created: 2 * api.MaxNest, Placed: 1, Texts: 2}) || w.unmount(t) != api.OK {
		t.Errorf("%+v", n)
	}
}

// turned is a state of a list of so many numbers, which begins with that one.
func turned(count, first int) api.Value {
	v := numbered(0, count)
	list := v.List[0].List
	v.List[0].List = slices.Concat(list[first:], list[:first])
	return v
}

// TestR1Time: what is fifteen times as large takes about fifteen times as long.
func TestR1Time(t *testing.T) {
	spent := func(times int, call func()) time.Duration {
		least := time.Hour
		for range 5 {
			begun := time.Now()
			for range times {
				call()
			}
			least = min(least, time.Since(begun))
		}
		return least
	}
	sized := func(count int) map[string]func() {
		out := map[string]func(){}
		for name, s := range map[string]string{
			"elements": `<for each="x" :in="l" :key="x"><b/></for>`, "texts": `<ul><for each="x" at="i" :in="l" :key="x"><li :a="i">{{ i }}</li></for></ul>`, "empty loops": `<for each="x" :in="l" :key="x"><p>` + strings.Repeat(`<for each="y" :in="m" :key="y"><b/></for>`, 5) + `</p></for>`,
		} {
			cs := template(t, s)
			for kind, states := range map[string][]api.Value{
				"the same": {turned(count, 0), turned(count, 0)}, "turned": {turned(count, 0), turned(count, count/2)}, "back": {turned(count, 0), backward(count)}, "others": {turned(count, 0), numbered(count, count)}, "none": {turned(count, 0), turned(0, 0)},
			} {
				out[name+", "+kind] = func() {
					x, _ := New(cs, api.MaxRoom)
					x.Mount(states[0])
					if x.Update(states[1]) != api.OK || x.Update(states[0]) != api.OK {
						panic(name)
					}
					x.Unmount()
				}
			}
		}
		return out
	}
	small, large := sized(120), sized(1800)
	for name, many := range large {
		short, long := spent(15, small[name]), spent(1, many)
		if long > 8*short+20*time.Millisecond {
			t.Errorf("%s: %v, fifteen of a fifteenth %v", name, long, short)
		}
	}
}

// backward is a state of a list of falling numbers.
func backward(count int) api.Value {
	v := numbered(0, count)
	slices.Reverse(v.List[0].List)
	return v
}

// sample is a core that meets all Kinds, with states that fit it.
func sample(t *testing.T) ([]api.Core, []api.Value) {
	t.Helper()
	s := `<def name="d" props="p"><u>{{ len(p) }}<slot/></u></def>` + plain + `<if :test="b"><p :a="k" c="d">z</p></if><else><d :p="l">` + plain + `</d></else>{{ k }}`
	return template(t, s), []api.Value{datum(t, `{"l": ["x", 2, "z"], "b": false, "k": 1}`), datum(t, `{"l": ["z", 3, "x", 2], "b": false, "k": "v"}`), datum(t, `{"l": [3], "b": true, "k": null}`), datum(t, `{"l": [3, 1], "b": true, "k": "w"}`)}
}

// TestR4ArgumentsStay: nothing that is handed in is changed, nor the room of its lists, whether it may be or not.
func TestR4ArgumentsStay(t *testing.T) {
	t.Parallel()
	m := newMaker(199)
	for i := range 100 {
		m.off = i % 4
		given := with(m.cores(t, 4), roomy)
		if i%5 == 0 {
			given = with(broken(m, given), roomy)
		}
		before := with(given, opened)
		x, _ := New(given, 300)
		for j := range 6 {
			state := with(datum(t, `{"s": `+m.record(2, 0)+`}`), roomy)
			if j == 4 {
				state = with(broken(m, state), roomy)
			}
			held := with(state, opened)
			x.Mount(state)
			x.Update(state)
			if !reflect.DeepEqual(with(given, opened), before) || !reflect.DeepEqual(with(state, opened), held) {
				t.Fatalf("changed: %s of %s", cut(given), cut(state))
			}
		}
	}
}

// TestR4NothingKept overwrites the core behind New, and each state behind its call: all goes on as if they were still there.
func TestR4NothingKept(t *testing.T) {
	cs, states := sample(t)
	w := newTwin(t, cs, 60)
	given, _ := sample(t)
	given = with(given, roomy)
	x, _ := New(given, 60)
	spoil(given)
	w.mount(t, states[0])
	for i, v := range slices.Concat(states, states, states[:2]) {
		own := with(v, roomy)
		if i == 0 {
			x.Mount(own)
		} else {
			x.Update(own)
			w.update(t, v)
		}
		spoil(own)
		if got, want := pictureOf(x), pictureOf(w.x); !reflect.DeepEqual(got, want) {
			t.Fatalf("step %d: %s, want %s", i, cut(got), cut(want))
		}
	}
	x.Unmount()
	w.unmount(t)
	if got, want := pictureOf(x), pictureOf(w.x); !reflect.DeepEqual(got, want) {
		t.Errorf("%s, want %s", cut(got), cut(want))
	}
}

// TestR4NewMemory: no two lists of one answer, nor of two, share memory, their room neither.
func TestR4NewMemory(t *testing.T) {
	cs, states := sample(t)
	x, _ := New(cs, 60)
	x.Mount(states[0])
	met := map[unsafe.Pointer]int{}
	// All answers are held, so that no address is given twice.
	var all []any
	for _, v := range states {
		x.Update(v)
		for range 3 {
			all = append(all, x.Cells(), x.Free(), x.Forest())
		}
	}
	for _, one := range append(all, any(cs), any(states)) {
		cells(one, met)
	}
	if len(met) < 1000 {
		t.Errorf("only %d cells", len(met))
	}
	for _, n := range met {
		if n != 1 {
			t.Fatalf("a cell lies in %d lists", n)
		}
	}
}

// TestR4AnswersSpoilt overwrites what is answered: what the model holds does not change by it.
func TestR4AnswersSpoilt(t *testing.T) {
	cs, states := sample(t)
	w := newTwin(t, cs, 60)
	w.mount(t, states[0])
	for _, v := range slices.Concat(states, states) {
		spoil(w.x.Cells())
		spoil(w.x.Free())
		spoil(w.x.Forest())
		w.expect(t, "spoiling")
		w.update(t, v)
	}
	w.unmount(t)
}

// TestR5TwoModels: two models of one core, called in turns, do not touch one another, nor do those of others.
func TestR5TwoModels(t *testing.T) {
	t.Parallel()
	m, met := newMaker(200), map[api.Errno]int{}
	for i := range 40 {
		cs := m.cores(t, 4)
		twins := []twin{newTwin(t, cs, 100), newTwin(t, cs, 100), newTwin(t, m.cores(t, 3), 40)}
		for range 20 {
			m.run(t, twins[m.Intn(3)], 1, func() api.Value { return datum(t, `{"s": `+m.record(1+i%2, 0)+`}`) }, met)
			for _, w := range twins {
				w.expect(t, "a call of another")
			}
		}
	}
	if met[api.OK] < 300 {
		t.Errorf("%v", met)
	}
}

// TestR5Alike: equal calls of two models answer alike, whatever was asked of others ahead.
func TestR5Alike(t *testing.T) {
	cs, states := sample(t)
	first, _ := New(cs, 60)
	for _, wrong := range slices.Collect(maps.Values(wrongCores())) {
		New(wrong, 60)
		New(cs, 0)
		second, _ := New(cs, 60)
		first, _ = New(cs, 60)
		first.Mount(states[0])
		second.Mount(states[0])
		for _, v := range slices.Concat(states, slices.Collect(maps.Values(wrongValues())), states) {
			if a, b := first.Update(v), second.Update(v); a != b || !reflect.DeepEqual(pictureOf(first), pictureOf(second)) {
				t.Fatalf("%d, %d: %s, %s", a, b, cut(pictureOf(first)), cut(pictureOf(second)))
			}
		}
	}
}

// TestR5Goroutines: models that are made and called at one time, of one core and one list of states, answer as one by one.
func TestR5Goroutines(t *testing.T) {
	cs, states := sample(t)
	w := newTwin(t, cs, 60)
	var want []picture
	w.mount(t, states[0])
	for _, v := range states {
		w.update(t, v)
		want = append(want, pictureOf(w.x))
	}
	var group sync.WaitGroup
	for range 8 {
		group.Go(func() {
			for range 50 {
				x, _ := New(cs, 60)
				x.Mount(states[0])
				for i, v := range states {
					if code := x.Update(v); code != api.OK || !reflect.DeepEqual(pictureOf(x), want[i]) {
						t.Errorf("%d, %s", code, cut(pictureOf(x)))
					}
				}
			}
		})
	}
	group.Wait()
}
