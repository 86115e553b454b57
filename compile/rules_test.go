package compile

import (
	"reflect"
	"slices"
	"strings"
	"sync"
	"testing"
	"time"
	"unsafe"

	"stencil/api"
	"stencil/core"
	"stencil/vm"
)

// Lists of anything, and what lies behind their ends.

// visit calls met with each list that lies in x, the inner ones behind those that hold them.
func visit(x reflect.Value, met func(list reflect.Value)) {
	switch x.Kind() {
	case reflect.Struct:
		for i := range x.NumField() {
			visit(x.Field(i), met)
		}
	case reflect.Slice:
		met(x)
		for i := range x.Len() {
			visit(x.Index(i), met)
		}
	}
}

// relisted is a copy of x in which each list is what copied makes of it.
func relisted[T any](x T, copied func(list reflect.Value) reflect.Value) T {
	visit(reflect.ValueOf(&x).Elem(), func(list reflect.Value) { list.Set(copied(list)) })
	return x
}

// roomy is a copy of a list with room for two more, which holds marks.
func roomy(list reflect.Value) reflect.Value {
	out := reflect.MakeSlice(list.Type(), list.Len()+2, list.Len()+2)
	reflect.Copy(out, list)
	for i := list.Len(); i < out.Len(); i++ {
		mark(out.Index(i))
	}
	return out.Slice(0, list.Len())
}

// mark fills all numbers and texts.
func mark(x reflect.Value) {
	switch x.Kind() {
	case reflect.Int:
		x.SetInt(77)
	case reflect.Bool:
		x.SetBool(true)
	case reflect.String:
		x.SetString("mark")
	case reflect.Struct:
		for i := range x.NumField() {
			mark(x.Field(i))
		}
	}
}

// opened is a copy of a list to the end of its room.
func opened(list reflect.Value) reflect.Value {
	if list.IsNil() {
		return list
	}
	out := reflect.MakeSlice(list.Type(), list.Cap(), list.Cap())
	reflect.Copy(out, list.Slice(0, list.Cap()))
	return out
}

// cells counts the cells of all lists in x by their addresses, those of their room too.
func cells(x any, met map[unsafe.Pointer]int) {
	visit(reflect.ValueOf(x), func(list reflect.Value) {
		all := list.Slice(0, list.Cap())
		for i := range all.Len() {
			met[all.Index(i).Addr().UnsafePointer()]++
		}
	})
}

// spoil overwrites the cells of all lists in x, to the ends of their room.
func spoil(x any) {
	var all []reflect.Value
	visit(reflect.ValueOf(x), func(list reflect.Value) { all = append(all, list.Slice(0, list.Cap())) })
	for _, list := range all {
		for i := range list.Len() {
			mark(list.Index(i))
		}
	}
}

// broken is a copy of x of which one thing is another one.
func broken[T any](m *maker, x T) T {
	out := relisted(x, func(list reflect.Value) reflect.Value {
		return reflect.AppendSlice(reflect.MakeSlice(list.Type(), 0, list.Len()), list)
	})
	var all []reflect.Value
	var gather func(reflect.Value)
	gather = func(x reflect.Value) {
		switch x.Kind() {
		case reflect.Struct:
			for i := range x.NumField() {
				gather(x.Field(i))
			}
			return
		case reflect.Slice:
			for i := range x.Len() {
				gather(x.Index(i))
			}
		}
		all = append(all, x)
	}
	gather(reflect.ValueOf(&out).Elem())
	one := all[m.Intn(len(all))]
	switch one.Kind() {
	case reflect.Int:
		one.SetInt(int64([]int{-1, 0, 1, 2, 3, 4, 5, 6, 9, 31, 1 << 40}[m.Intn(11)]))
	case reflect.Bool:
		one.SetBool(!one.Bool())
	case reflect.String:
		one.SetString(m.word("", "p", "P", "\xff", "s", "zz"))
	case reflect.Slice:
		if n := one.Len(); n > 0 && m.chance(2) {
			one.Set(one.Slice(0, n-1))
		} else if n > 0 {
			one.Set(reflect.Append(one, one.Index(m.Intn(n))))
		} else {
			one.Set(reflect.MakeSlice(one.Type(), 1, 1))
		}
	}
	return out
}

// sample is a core of all kinds, with all that these may have; it shows a record with a list y.
func sample() []api.Core {
	still := fields(elem("p", text("x"), elem("b")), attr("a", "1"))
	return list(
		text("t"), still, parts(plain("a"), bound("p0.b ? 'c' : p0.v"), plain("d"), bound("p0.b && p0.b")),
		fields(elem("u", still, show("p0.v")), attr("a", ""), boundAttr("b", "p0.v")),
		otherwise(when("p0.b", still, show("p0.v")), elem("s", show("1")), still),
		loop("p0.y", "p1", fields(elem("q", still, with([]string{"p1", "p2"}, show("p3"), when("p0.b", show("p4")))), boundAttr("n", "p2"))),
		with([]string{"p0.v", "p0.y"}, show("p1"), loop("p2", "p3", still), with(nil, text("y"))),
	)
}

// TestR1Any: whatever is handed in, there is an answer, and it is core.Check's error, or a program that keeps all that is asked of one.
func TestR1Any(t *testing.T) {
	t.Parallel()
	m, met := newMaker(243), map[api.Errno]int{}
	for i := range 4000 {
		cs := m.whole(3)
		for range 1 + i%3 {
			cs = broken(m, cs)
		}
		fault := core.Check(cs)
		met[fault]++
		o := settings()[i%8]
		if fault == api.OK {
			expectForm(t, cs, o)
		} else if p, got := Compile(cs, o); got != fault || !reflect.DeepEqual(p, api.Program{}) {
			t.Fatalf("%d, want %d: %s: %s", got, fault, cut(cs), cut(p))
		}
	}
	for _, fault := range []api.Errno{api.OK, api.ErrCoreForm, api.ErrCoreExpr, api.ErrCoreName} {
		if met[fault] < 50 {
			t.Errorf("few of %d: %v", fault, met)
		}
	}
}

// TestR1Empty: lists that are empty or nil, wherever one may be, give one program.
func TestR1Empty(t *testing.T) {
	empty := func(list reflect.Value) reflect.Value {
		return reflect.AppendSlice(reflect.MakeSlice(list.Type(), 0, 0), list)
	}
	for _, cs := range [][]api.Core{nil, sample(), list(when("true"), with(nil), elem("p"), loop("p0", "p1", elem("b")), with(nil, when("true")))} {
		for _, o := range settings() {
			if got, want := expectForm(t, relisted(cs, empty), o), expectForm(t, cs, o); !reflect.DeepEqual(got, want) {
				t.Errorf("%+v: %s, want %s", o, cut(got), cut(want))
			}
		}
	}
}

// TestR1Shared: what lies in itself many times over is not all gone through.
func TestR1Shared(t *testing.T) {
	c, e := text("x"), x("1")
	for range 4000 {
		c = with(nil, c, c)
		e = api.Expr{Op: api.EAdd, Kids: []api.Expr{e, e}}
	}
	for _, o := range settings() {
		if _, fault := Compile(list(c), o); fault != api.ErrCoreLarge {
			t.Error(fault)
		}
		if _, fault := Compile(list(holding(e)), o); fault != api.ErrCoreLarge {
			t.Error(fault)
		}
	}
}

// spent is the least time that so many calls take.
func spent(n int, call func()) time.Duration {
	least := time.Hour
	for range 5 {
		begun := time.Now()
		for range n {
			call()
		}
		least = min(least, time.Since(begun))
	}
	return least
}

// TestR1Time: what is sixteen times as large takes about sixteen times as long.
func TestR1Time(t *testing.T) {
	around := func(n int, c api.Core) []api.Core {
		return list(nested(n, c, func(c api.Core) api.Core { return with(nil, c) }))
	}
	for name, sized := range map[string]func(n int) []api.Core{
		"elements": func(n int) []api.Core { return times(16*n, elem("p")) }, "ifs": func(n int) []api.Core { return times(4*n, when("true", elem("p"))) }, "deep": func(n int) []api.Core { return around(15*n, elem("b")) },
		"texts":  func(n int) []api.Core { return times(8*n, text("x")) },
		"a text": func(n int) []api.Core { return list(parts(slices.Repeat([]api.Part{bound("1")}, 7*n)...)) },
		"different": func(n int) []api.Core {
			var out []api.Core
			for i := range 5 * n {
				out = append(out, text(strings.Repeat("y", 1+i%100)+strings.Repeat("z", 1+i/100)))
			}
			return out
		},
		"statics": func(n int) []api.Core {
			return times(n, elem("p", show("1"), fields(elem("b", text("x"), elem("i")), attr("a", "v"))))
		},
	} {
		small, large := sized(16), sized(256)
		for _, o := range []api.Options{options(""), options("HFI")} {
			run := func(cs []api.Core) func() {
				return func() {
					if _, fault := Compile(cs, o); fault != api.OK {
						panic(fault)
					}
				}
			}
			short, long := spent(16, run(small)), spent(1, run(large))
			if long > 8*short+20*time.Millisecond {
				t.Errorf("%s: %v, sixteen of a sixteenth %v", name, long, short)
			}
		}
	}
}

// TestR4ArgumentsStay: nothing that is handed in is changed, nor the room of its lists, whether it may be or not.
func TestR4ArgumentsStay(t *testing.T) {
	t.Parallel()
	m := newMaker(244)
	for i := range 300 {
		given := m.whole(4)
		if i%3 == 0 {
			given = broken(m, given)
		}
		given = relisted(given, roomy)
		before := relisted(given, opened)
		for _, o := range settings() {
			Compile(given, o)
			if !reflect.DeepEqual(relisted(given, opened), before) {
				t.Fatalf("%+v: changed: %s", o, cut(given))
			}
		}
	}
}

// TestR4NewMemory: no two lists of one answer, nor of two, share memory with one another or with what was handed in, their room neither.
func TestR4NewMemory(t *testing.T) {
	met := map[unsafe.Pointer]int{}
	given := relisted(sample(), roomy)
	// All answers are held, so that no address is given twice.
	all := []any{given}
	for range 2 {
		for _, o := range settings() {
			all = append(all, expectForm(t, given, o))
		}
	}
	for _, one := range all {
		cells(one, met)
	}
	if len(met) < 1000 {
		t.Errorf("only %d cells", len(met))
	}
	for _, n := range met {
		if n != 1 {
			t.Fatalf("a cell lies in %d lists", n)
		}
	}
}

// TestR4NothingKept overwrites what was handed in, and what was answered: neither changes what is answered later, nor what was answered ahead.
func TestR4NothingKept(t *testing.T) {
	for _, o := range settings() {
		want := expectForm(t, sample(), o)
		given := relisted(sample(), roomy)
		first := expectForm(t, given, o)
		spoil(given)
		second := expectForm(t, sample(), o)
		if !reflect.DeepEqual(first, want) || !reflect.DeepEqual(second, want) {
			t.Errorf("%+v: %s, want %s", o, cut(first), cut(want))
		}
		spoil(second)
		if third := expectForm(t, sample(), o); !reflect.DeepEqual(first, want) || !reflect.DeepEqual(third, want) {
			t.Errorf("%+v: %s, want %s", o, cut(third), cut(want))
		}
	}
}

// TestP24_2Alike: the same core and the same options give the same program, whatever was compiled ahead.
func TestP24_2Alike(t *testing.T) {
	t.Parallel()
	m, wrong := newMaker(245), wrongCores()
	for i := range 300 {
		cs := m.whole(3 + i%3)
		for _, o := range settings() {
			want := expectForm(t, cs, o)
			Compile(wrong[i%len(wrong)].cs, o)
			Compile(m.whole(3), settings()[m.Intn(8)])
			if got := expectForm(t, relisted(cs, roomy), o); !reflect.DeepEqual(got, want) {
				t.Fatalf("%+v: %s, want %s", o, cut(got), cut(want))
			}
		}
	}
}

// TestP24_2Goroutines: what is compiled at one time is the same as one by one.
func TestP24_2Goroutines(t *testing.T) {
	cs := sample()
	var want []api.Program
	for _, o := range settings() {
		want = append(want, expectForm(t, cs, o))
	}
	var group sync.WaitGroup
	for range 8 {
		group.Go(func() {
			for range 50 {
				for i, o := range settings() {
					if got, fault := Compile(cs, o); fault != api.OK || !reflect.DeepEqual(got, want[i]) {
						t.Errorf("%+v: %d: %s", o, fault, cut(got))
					}
				}
			}
		})
	}
	group.Wait()
}

// TestP24_2OneArena: the machines of the eight programs keep one arena, handle by handle, and answer alike.
func TestP24_2OneArena(t *testing.T) {
	t.Parallel()
	m, met := newMaker(246), map[api.Errno]int{}
	for i := range 120 {
		m.off = i % 3
		cs := append(m.whole(4), sample()...)
		if core.Check(cs) != api.OK {
			continue
		}
		var machines []*vm.Vm
		for _, o := range settings() {
			one, fault := vm.New(expectForm(t, cs, o), []int{40, 200, 900}[i%3])
			if fault != api.OK {
				t.Fatal(fault)
			}
			machines = append(machines, one)
		}
		for step := range 12 {
			state := datum(t, strings.TrimSuffix(m.record(1, 0), "}")+`, "y": [`+m.word(append(arrangements(3), "1, 1")...)+`]}`)
			call := []func(a *vm.Vm) api.Errno{
				func(a *vm.Vm) api.Errno { return a.Update(state) }, func(a *vm.Vm) api.Errno { return a.Mount(state) }, (*vm.Vm).Unmount,
			}[[]int{1, 0, 0, 1, 0, 2, 0, 1, 0, 0, 2, 1}[step]]
			first := call(machines[0])
			met[first]++
			for k, one := range machines[1:] {
				if got := call(one); got != first || one.Counts() != machines[0].Counts() || !slices.Equal(one.Free(), machines[0].Free()) || !reflect.DeepEqual(one.Cells(), machines[0].Cells()) || !reflect.DeepEqual(one.Forest(), machines[0].Forest()) {
					t.Fatalf("%+v: %d, without all %d: %s", settings()[k+1], got, first, cut(cs))
				}
			}
		}
	}
	for _, fault := range []api.Errno{api.OK, api.ErrVmKey, api.ErrVmBare, api.ErrVmMounted} {
		if met[fault] < 20 {
			t.Errorf("few of %d: %v", fault, met)
		}
	}
}
