package origin

import (
	"fmt"
	"maps"
	"reflect"
	"slices"
	"strings"
	"sync"
	"testing"
	"time"
	"unsafe"

	"stencil/api"
	"stencil/forest"
)

// Lists of anything, and what lies behind their ends.

// visit calls met with each list that lies in x, the inner ones behind those that hold them.
func visit(x reflect.Value, met func(list reflect.Value)) {
	switch x.Kind() {
	case reflect.Struct:
		for i := range x.NumField() {
			visit(x.Field(i), met)
		}
	case reflect.Slice:
		met(x)
		for i := range x.Len() {
			visit(x.Index(i), met)
		}
	}
}

// with is a copy of x in which each list is what copied makes of it.
func with[T any](x T, copied func(list reflect.Value) reflect.Value) T {
	visit(reflect.ValueOf(&x).Elem(), func(list reflect.Value) { list.Set(copied(list)) })
	return x
}

// roomy is a copy of a list with room for two more, which holds marks.
func roomy(list reflect.Value) reflect.Value {
	out := reflect.MakeSlice(list.Type(), list.Len()+2, list.Len()+2)
	reflect.Copy(out, list)
	for i := list.Len(); i < out.Len(); i++ {
		mark(out.Index(i))
	}
	return out.Slice(0, list.Len())
}

// mark fills all numbers and texts.
func mark(x reflect.Value) {
	switch x.Kind() {
	case reflect.Int:
		x.SetInt(77)
	case reflect.String:
		x.SetString("mark")
	case reflect.Struct:
		for i := range x.NumField() {
			mark(x.Field(i))
		}
	}
}

// opened is a copy of a list to the end of its room.
func opened(list reflect.Value) reflect.Value {
	if list.IsNil() {
		return list
	}
	out := reflect.MakeSlice(list.Type(), list.Cap(), list.Cap())
	reflect.Copy(out, list.Slice(0, list.Cap()))
	return out
}

// cells counts the cells of all lists in x by their addresses, those of their room too.
func cells(x any, met map[unsafe.Pointer]int) {
	visit(reflect.ValueOf(x), func(list reflect.Value) {
		all := list.Slice(0, list.Cap())
		for i := range all.Len() {
			met[all.Index(i).Addr().UnsafePointer()]++
		}
	})
}

// spoil overwrites the cells of all lists in x.
func spoil(x any) {
	var all []reflect.Value
	visit(reflect.ValueOf(x), func(list reflect.Value) { all = append(all, list) })
	for _, list := range all {
		for i := range list.Len() {
			mark(list.Index(i))
		}
	}
}

// broken is a copy of x of which one thing is another one.
func broken[T any](m *maker, x T) T {
	out := with(x, func(list reflect.Value) reflect.Value {
		return reflect.AppendSlice(reflect.MakeSlice(list.Type(), 0, list.Len()), list)
	})
	var all []reflect.Value
	var gather func(reflect.Value)
	gather = func(x reflect.Value) {
		switch x.Kind() {
		case reflect.Struct:
			for i := range x.NumField() {
				gather(x.Field(i))
			}
			return
		case reflect.Slice:
			for i := range x.Len() {
				gather(x.Index(i))
			}
		}
		all = append(all, x)
	}
	gather(reflect.ValueOf(&out).Elem())
	one := all[m.Intn(len(all))]
	switch one.Kind() {
	case reflect.Int:
		one.SetInt(int64([]int{-1, 0, 1, 2, 3, 4, 5, 6, 9, 31, 1 << 40}[m.Intn(11)]))
	case reflect.Bool:
		one.SetBool(!one.Bool())
	case reflect.String:
		one.SetString(m.word("", "p", "P", "\xff", "s", "zz"))
	case reflect.Slice:
		if n := one.Len(); n > 0 && m.chance(2) {
			one.Set(one.Slice(0, n-1))
		} else if n > 0 {
			one.Set(reflect.Append(one, one.Index(m.Intn(n))))
		} else {
			one.Set(reflect.MakeSlice(one.Type(), 1, 1))
		}
	}
	return out
}

// TestR1Any: whatever is handed in, there is an answer, and it is the one that was asked for.
func TestR1Any(t *testing.T) {
	t.Parallel()
	m, met, taken := newMaker(174), map[api.Errno]int{}, 0
	for i := range 300 {
		cs, state := m.cores(t, 3), datum(t, m.state(1))
		for range 10 {
			met[expectAsked(t, broken(m, cs), state)]++
			met[expectAsked(t, cs, broken(m, state))]++
			met[expectAsked(t, broken(m, broken(m, cs)), broken(m, state))]++
		}
		spots, _, _ := Trace(cs, state)
		if len(spots) > 100 {
			continue
		}
		for range 10 {
			spots = broken(m, spots)
			taken += min(1, len(expectForest(t, spots)))
		}
		if i%100 == 0 {
			expectForest(t, nil)
		}
	}
	for _, code := range []api.Errno{api.OK, api.ErrCoreForm, api.ErrCoreExpr, api.ErrCoreName, api.ErrValueKind, api.ErrValueForm, api.ErrEvalType, api.ErrEvalPath} {
		if met[code] == 0 {
			t.Errorf("%d was never met: %v", code, met)
		}
	}
	if met[api.OK] < 500 || taken < 100 {
		t.Errorf("%v, %d", met, taken)
	}
}

// TestR1Shared: what lies in itself many times over is not all gone through.
func TestR1Shared(t *testing.T) {
	cs, v := []api.Core{{Kind: api.CElem, Tag: "p"}}, api.Value{Kind: api.KNull}
	for range 4000 {
		cs = []api.Core{{Kind: api.CWith, Kids: cs}, {Kind: api.CWith, Kids: cs}}
		v = api.Value{Kind: api.KList, List: []api.Value{v, v}}
	}
	expectFault(t, cs, v, api.ErrCoreLarge)
	expectFault(t, cs[:1], v, api.ErrCoreLarge)
	expectFault(t, nil, v, api.ErrValueDeep)
}

// TestR1Time: what is fifteen times as large takes about fifteen times as long.
func TestR1Time(t *testing.T) {
	spent := func(n int, call func()) time.Duration {
		least := time.Hour
		for range 6 {
			begun := time.Now()
			for range n {
				call()
			}
			least = min(least, time.Since(begun))
		}
		return least
	}
	sized := func(n int) map[string]func() {
		key := strings.Repeat("k", 200)
		state := datum(t, `{"l": `+numbers(n*256)+`, "m": `+numbers(n*16)+`, "none": [], "k": "`+key+`"}`)
		out := map[string]func(){}
		for name, s := range map[string]string{
			"elements": `<for each="x" :in="l" :key="x"><b/></for>`, "texts": `<for each="x" :in="m" :key="x"><p>x<b/>y<i/>z{{ x }}</p></for>`, "long keys": `<for each="x" :in="m" :key="k ~ x"><p><for each="y" at="i" :in="k == '' ? m : none" :key="y"><b/></for></p></for>`,
			"empty loops": `<for each="x" :in="m" :key="x"><p>` + strings.Repeat(`<for each="y" :in="none" :key="y"><b/></for>`, 100) + `</p></for>`, "elses": `<for each="x" :in="m" :key="x"><p>` + strings.Repeat(`<if :test="x == -1"><b/><b/><b/></if><else>`, 25) + strings.Repeat(`</else>`, 25) + `</p></for>`,
		} {
			cs := template(t, s)
			out[name] = func() {
				if _, _, code := Trace(cs, state); code != api.OK {
					panic(name + ": " + code.Error())
				}
			}
		}
		var deep, wide []api.Spot
		for i := range n * 1000 {
			deep, wide = append(deep, elem(i-1, "a")), append(wide, elem(max(-1, min(i-1, 0)), "a"))
		}
		out["deep forest"] = func() { Forest(deep) }
		out["wide forest"] = func() { Forest(wide) }
		return out
	}
	small, large := sized(1), sized(15)
	for name, many := range large {
		short, long := spent(15, small[name]), spent(1, many)
		if long > 8*short+10*time.Millisecond {
			t.Errorf("%s: %v, fifteen of a fifteenth %v", name, long, short)
		}
	}
}

// TestR4ArgumentsStay: nothing that is handed in is changed, nor the room of its lists, whether it may be or not.
func TestR4ArgumentsStay(t *testing.T) {
	t.Parallel()
	m := newMaker(175)
	for i := range 400 {
		m.off = i % 4
		given, state := with(m.cores(t, 4), roomy), with(datum(t, m.state(2)), roomy)
		if i%4 == 0 {
			given, state = with(broken(m, given), roomy), with(broken(m, state), roomy)
		}
		before, held := with(given, opened), with(state, opened)
		spots, _, _ := Trace(given, state)
		if !reflect.DeepEqual(with(given, opened), before) || !reflect.DeepEqual(with(state, opened), held) {
			t.Fatalf("changed: %s of %s", cut(given), cut(state))
		}
		row := with(spots, roomy)
		if i%4 == 1 && len(row) > 0 {
			row[m.Intn(len(row))].Parent = m.Intn(5) - 2
		}
		ahead := with(row, opened)
		Forest(row)
		if !reflect.DeepEqual(with(row, opened), ahead) {
			t.Fatalf("changed: %s", cut(row))
		}
	}
}

// TestR4NewMemory: no two lists of one answer, nor of two, nor one of what was handed in, share memory, their room neither.
func TestR4NewMemory(t *testing.T) {
	m, met := newMaker(176), map[unsafe.Pointer]int{}
	m.off = 0
	var kept []any
	for range 150 {
		cs, state := m.cores(t, 4), datum(t, m.state(2))
		all := []any{state}
		for range 2 {
			spots, loops, _ := Trace(cs, state)
			all = append(all, spots, loops, Forest(spots), Forest(spots))
		}
		for _, one := range all {
			cells(one, met)
		}
		kept = append(kept, all)
	}
	if len(met) < 10000 || len(kept) == 0 {
		t.Errorf("only %d cells", len(met))
	}
	for _, n := range met {
		if n != 1 {
			t.Fatalf("a cell lies in %d lists", n)
		}
	}
}

// sample is a core that meets all Kinds, with a state that fits it.
func sample(t *testing.T) ([]api.Core, api.Value) {
	t.Helper()
	s := `<def name="d" props="p"><u><slot/></u></def>` + ahead + `<if :test="b"><p :a="k" c="d">z</p></if><else><d :p="l">` + ahead + `</d></else>`
	return template(t, s), datum(t, `{"l": ["x", 2, "z"], "b": false, "k": 1}`)
}

// TestR4NothingKept overwrites what was handed in, and an answer: neither an earlier nor a later answer changes.
func TestR4NothingKept(t *testing.T) {
	cs, state := sample(t)
	answer := func(cs []api.Core, v api.Value) ([]api.Spot, []api.Loop, []api.Tree) {
		spots, loops, code := Trace(cs, v)
		if code != api.OK {
			t.Fatal(code)
		}
		return spots, loops, Forest(spots)
	}
	shown := func(spots []api.Spot, loops []api.Loop, fs []api.Tree) string {
		return fmt.Sprintf("%v, %v, %v", spots, loops, fs)
	}
	spots, loops, fs := answer(cs, state)
	want := shown(spots, loops, fs)
	other, otherLoops, otherTrees := answer(cs, state)
	spoil(otherTrees)
	if !forest.Same(Forest(other), fs) {
		t.Error("a forest shares memory with its spots")
	}
	spoil(other)
	spoil(otherLoops)
	if got := shown(answer(cs, state)); got != want {
		t.Errorf("%s, want %s", got, want)
	}
	spoil(cs)
	spoil(state)
	if got := shown(spots, loops, fs); got != want {
		t.Errorf("%s, want %s", got, want)
	}
	if got := shown(answer(sample(t))); got != want {
		t.Errorf("%s, want %s", got, want)
	}
	spoil(spots)
	if got := shown(nil, nil, fs); !strings.HasSuffix(want, strings.TrimPrefix(got, "[], [], ")) {
		t.Errorf("%s, want %s", got, want)
	}
}

// TestR5NothingKept: what was asked ahead, faults among it, does not matter.
func TestR5NothingKept(t *testing.T) {
	cs, state := sample(t)
	for _, first := range append([][]api.Core{nil, template(t, loops(8, "z")), template(t, ahead+"{{ none }}")}, slices.Collect(maps.Values(wrongCores()))...) {
		for _, v := range append([]api.Value{state}, slices.Collect(maps.Values(wrongValues()))...) {
			Trace(first, v)
			Forest([]api.Spot{elem(-1, "a"), text(-2, "x")})
			expectAsked(t, cs, state)
		}
	}
}

// TestR5Goroutines: calls at one time, with the same core and state, answer as calls one by one.
func TestR5Goroutines(t *testing.T) {
	cs, state := sample(t)
	want, wantLoops, _ := askedTrace(cs, state)
	fs := askedForest(want)
	var group sync.WaitGroup
	for range 8 {
		group.Go(func() {
			for range 200 {
				spots, loops, code := Trace(cs, state)
				if code != api.OK || !alike(spots, want) || !alikeLoops(loops, wantLoops) || !forest.Same(Forest(want), fs) {
					t.Errorf("%s, %s, %d", told(spots), toldLoops(loops), code)
				}
			}
		})
	}
	group.Wait()
}
