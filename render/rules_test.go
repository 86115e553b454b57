package render

import (
	"reflect"
	"slices"
	"strings"
	"sync"
	"testing"
	"time"
	"unsafe"

	"stencil/api"
	"stencil/forest"
)

// anyExpr may be, or not.
func (m *maker) anyExpr(deep int) api.Expr {
	if m.chance(2) {
		return v(m.Intn(4))
	}
	e := filled(1+m.Intn(31), v(0), v(1), v(0))
	if m.chance(6) {
		e = api.Expr{Op: m.Intn(36) - 2, Int: m.Intn(12) - 2, Str: m.word("", "", "a", "null", "\xff"), Kids: e.Kids}
	}
	e.Kids = slices.Clone(e.Kids)
	for i := range e.Kids {
		if deep > 0 {
			e.Kids[i] = m.anyExpr(deep - 1)
		}
	}
	return e
}

// wrong are values that may not be, and are no larger than others.
var wrong = wrongValues()[:16]

// anyValue may be, or not.
func (m *maker) anyValue() api.Value {
	if m.chance(6) {
		return wrong[m.Intn(len(wrong))]
	}
	return m.value(2, 1+m.Intn(6))
}

// anyCores may be, or not.
func (m *maker) anyCores(deep int) []api.Core {
	var cs []api.Core
	for n := m.Intn(4); n > 0 && deep > 0; n-- {
		c := api.Core{Kind: m.Intn(5) + 1, Kids: m.anyCores(deep - 1)}
		switch c.Kind {
		case api.CText:
			c.Kids, c.Parts = nil, m.parts([]int{api.KRec})
		case api.CElem:
			c.Tag, c.Fields = m.word("p", "q"), m.fields([]int{api.KRec})
		case api.CIf:
			c.Exprs, c.Else = exprs(m.anyExpr(1)), m.anyCores(deep-1)
		case api.CFor:
			c.Exprs, c.Kids = exprs(m.anyExpr(1), v(m.Intn(4))), list(elem("p", c.Kids...))
		case api.CWith:
			c.Exprs = exprs(m.anyExpr(1), m.anyExpr(1))[m.Intn(3):]
		}
		if m.chance(30) {
			c.Kind, c.Tag = m.Intn(8)-1, m.word("", "p", "P")
		}
		cs = append(cs, c)
	}
	return cs
}

// TestR1Any: whatever is handed in, there is an answer, and it is the one that was asked for.
func TestR1Any(t *testing.T) {
	t.Parallel()
	m, met, evals := newMaker(165), map[api.Errno]int{}, map[api.Errno]int{}
	for range 20000 {
		met[expectAsked(t, m.anyCores(3), m.anyValue())]++
		stack := []api.Value{m.anyValue(), m.value(1, api.KInt)}[m.Intn(2):]
		evals[expectEvalAsked(t, m.anyExpr(3), stack).code]++
	}
	if len(met) < 8 || met[api.OK] < 100 || len(evals) < 6 || evals[api.OK] < 100 {
		t.Errorf("%v, %v", met, evals)
	}
}

// TestR1Shared: what lies in itself many times over is not all gone through.
func TestR1Shared(t *testing.T) {
	e, bad, value := v(0), api.Expr{Op: api.ENot}, null
	for range 4000 {
		e, bad, value = op(api.EIf, e, e, e), op(api.EAdd, bad, bad), row(value, value)
	}
	for _, one := range exprs(e, bad) {
		expectEval(t, one, []api.Value{truth(true)}, failed(api.ErrEvalTree))
		if fs, code := Render(list(hole(one)), null); len(fs) != 0 || code != api.ErrCoreLarge {
			t.Errorf("%d", code)
		}
	}
	expectEval(t, v(0), []api.Value{null, value}, failed(api.ErrEvalTree))
	if fs, code := Render(list(text("x")), value); len(fs) != 0 || code != api.ErrValueDeep {
		t.Errorf("%d", code)
	}
	cs := list(elem("q"))
	for range 60 {
		cs = list(with(nil, cs...), with(nil, cs...))
	}
	if fs, code := Render(cs, null); len(fs) != 0 || code != api.ErrCoreLarge {
		t.Errorf("%d", code)
	}
}

// TestR1Huge: long lists and texts, and what lies deep in one another.
func TestR1Huge(t *testing.T) {
	const million = 1 << 20
	long := strings.Repeat("x", 1<<24)
	for code, cs := range map[api.Errno][]api.Core{
		api.ErrCoreLarge: slices.Repeat(list(elem("p")), million), api.ErrCoreForm: list(text(long)), api.ErrCoreExpr: list(hole(str(long))), api.ErrCoreDeep: list(nested(4000, text("x"))),
	} {
		if fs, got := Render(cs, null); len(fs) != 0 || got != code {
			t.Errorf("%d, want %d", got, code)
		}
	}
	for code, v := range map[api.Errno]api.Value{api.ErrValueLarge: many(million), api.ErrValueForm: txt(long), api.ErrValueKind: {Kind: 9, List: make([]api.Value, million)}} {
		if fs, got := Render(nil, v); len(fs) != 0 || got != code {
			t.Errorf("%d, want %d", got, code)
		}
		expectEval(t, op(api.ENull), []api.Value{v}, failed(api.ErrEvalTree))
	}
	expectEval(t, str(long), nil, failed(api.ErrEvalTree))
	expectEval(t, api.Expr{Op: api.EAdd, Kids: make([]api.Expr, million)}, nil, failed(api.ErrEvalTree))
	expectEval(t, chain(4096), nil, failed(api.ErrEvalTree))
	stack := slices.Repeat([]api.Value{whole(3)}, million)
	expectEval(t, op(api.EAdd, v(million-1), v(0)), stack, came(whole(6)))
	expectEval(t, v(million), stack, failed(api.ErrEvalName))
	stack[million-1] = api.Value{}
	expectEval(t, v(0), stack, failed(api.ErrEvalTree))
}

// spent is the least time that n calls take.
func spent(n int, call func()) time.Duration {
	least := time.Hour
	for range 8 {
		begun := time.Now()
		for range n {
			call()
		}
		least = min(least, time.Since(begun))
	}
	return least
}

// sized are cores, each with a state that is so many sixteenths of what it may be.
func sized(n int) map[string]func() {
	records := row()
	for i := range n * 60 {
		records.List = append(records.List, rec("id,name,of", whole(i), txt("name"), row(whole(1), whole(2))))
	}
	state := rec("s,l,r", txt(strings.Repeat("x", 200)), many(n*256), records)
	each := loop(of("l"), v(1), elem("b"))
	body := fields(elem("p", parts(bound(part(v(1), "name")), plain(": "), bound(v(2))), when(op(api.ELess, v(2), num(100)), text("few")), loop(part(v(1), "of"), v(3), elem("i"))), boundField("class", of("s")))
	withs := loop(of("l"), v(2), elem("b", with(exprs(v(0), v(1), of("l"), of("r")), with(exprs(v(3), v(4)), when(op(api.ENot, op(api.ESame, v(8), num(1))))))))
	cores := map[string][]api.Core{
		"elements": list(each), "in elements": list(nested(60, each)), "records": list(loop(of("r"), part(v(1), "id"), body)), "withs": list(withs), "core": slices.Repeat(list(elem("p")), n*256), "texts": slices.Repeat(list(hole(of("s"))), n*64),
		"text keys": list(loop(of("l"), op(api.ECat, of("s"), v(2)), elem("b"))),
	}
	out := map[string]func(){}
	for name, cs := range cores {
		out[name] = func() {
			if _, code := Render(cs, state); code != api.OK {
				panic(name + ": " + code.Error())
			}
		}
	}
	return out
}

// TestR1Time: what is sixteen times as large takes about sixteen times as long.
func TestR1Time(t *testing.T) {
	small, large := sized(1), sized(15)
	for name, many := range large {
		few := small[name]
		short, long := spent(15, few), spent(1, many)
		if long > 8*short+5*time.Millisecond {
			t.Errorf("%s: %v, fifteen of a fifteenth %v", name, long, short)
		}
	}
}

// withRoom is a copy of a list that has spare room, which holds a mark.
func withRoom[T any](list []T, mark T) []T {
	return append(append(make([]T, 0, len(list)+2), list...), mark, mark)[:len(list)]
}

func roomyExpr(e api.Expr) api.Expr {
	e.Kids = withRoom(e.Kids, api.Expr{Str: "mark"})
	for i := range e.Kids {
		e.Kids[i] = roomyExpr(e.Kids[i])
	}
	return e
}

func roomyValue(v api.Value) api.Value {
	v.Names, v.List = withRoom(v.Names, "mark"), withRoom(v.List, txt("mark"))
	for i := range v.List {
		v.List[i] = roomyValue(v.List[i])
	}
	return v
}

func roomyValues(vs []api.Value) []api.Value { return roomyValue(row(vs...)).List }

func roomy(cs []api.Core) []api.Core {
	out := withRoom(cs, api.Core{Tag: "mark"})
	for i := range out {
		c := &out[i]
		c.Fields, c.Parts, c.Exprs = withRoom(c.Fields, api.Field{Name: "mark"}), withRoom(c.Parts, api.Part{Plain: "mark"}), withRoom(c.Exprs, api.Expr{Str: "mark"})
		for _, e := range exprsIn(c) {
			*e = roomyExpr(*e)
		}
		c.Kids, c.Else = roomy(c.Kids), roomy(c.Else)
	}
	return out
}

// exprsIn are all expressions that lie in a node, whether they are bound or not.
func exprsIn(c *api.Core) []*api.Expr {
	var out []*api.Expr
	for i := range c.Fields {
		out = append(out, &c.Fields[i].Expr)
	}
	for i := range c.Parts {
		out = append(out, &c.Parts[i].Expr)
	}
	for i := range c.Exprs {
		out = append(out, &c.Exprs[i])
	}
	return out
}

// Copies with the spare room of each list as part of it.

func openedExpr(e api.Expr) api.Expr {
	e.Kids = slices.Clone(e.Kids[:cap(e.Kids)])
	for i := range e.Kids {
		e.Kids[i] = openedExpr(e.Kids[i])
	}
	return e
}

func openedValue(v api.Value) api.Value {
	v.Names, v.List = slices.Clone(v.Names[:cap(v.Names)]), slices.Clone(v.List[:cap(v.List)])
	for i := range v.List {
		v.List[i] = openedValue(v.List[i])
	}
	return v
}

func openedValues(vs []api.Value) []api.Value { return openedValue(row(vs...)).List }

func opened(cs []api.Core) []api.Core {
	out := slices.Clone(cs[:cap(cs)])
	for i := range out {
		c := &out[i]
		c.Fields, c.Parts, c.Exprs = slices.Clone(c.Fields[:cap(c.Fields)]), slices.Clone(c.Parts[:cap(c.Parts)]), slices.Clone(c.Exprs[:cap(c.Exprs)])
		for _, e := range exprsIn(c) {
			*e = openedExpr(*e)
		}
		c.Kids, c.Else = opened(c.Kids), opened(c.Else)
	}
	return out
}

// TestR4ArgumentsStay: nothing that is handed in is changed, nor the spare room of its lists, whether it may be or not.
func TestR4ArgumentsStay(t *testing.T) {
	t.Parallel()
	m := newMaker(166)
	for i := range 1500 {
		cs, state := m.body(4), m.value(3, api.KRec)
		if i%4 == 0 {
			cs, state = m.anyCores(3), m.anyValue()
		}
		given, v := roomy(cs), roomyValue(state)
		before, held := opened(given), openedValue(v)
		Render(given, v)
		if !reflect.DeepEqual(opened(given), before) || !reflect.DeepEqual(openedValue(v), held) {
			t.Fatalf("changed: %s of %s", shownCore(cs), shown(state))
		}
		stack := roomyValues([]api.Value{state, m.value(2, api.KList), m.value(2, api.KStr)})
		e := roomyExpr(m.kindly(3, 1+m.Intn(6), stack))
		tree, lying := openedExpr(e), openedValues(stack)
		Eval(e, stack)
		if !reflect.DeepEqual(openedExpr(e), tree) || !reflect.DeepEqual(openedValues(stack), lying) {
			t.Fatalf("changed: %v", e)
		}
	}
}

// cells counts the cells of a list, its spare room too, by their addresses.
func cells[T any](list []T, met map[unsafe.Pointer]int) {
	for i := range list[:cap(list)] {
		met[unsafe.Pointer(&list[:cap(list)][i])]++
	}
}

func treeCells(fs []api.Tree, met map[unsafe.Pointer]int) {
	cells(fs, met)
	for _, tree := range fs {
		cells(tree.Attrs, met)
		treeCells(tree.Kids, met)
	}
}

func valueCells(v api.Value, met map[unsafe.Pointer]int) {
	cells(v.Names, met)
	cells(v.List, met)
	for _, one := range v.List {
		valueCells(one, met)
	}
}

// TestR4NewMemory: no two lists of one answer, nor of two, nor one of what was handed in, share memory, their spare room neither.
func TestR4NewMemory(t *testing.T) {
	m, met := newMaker(167), map[unsafe.Pointer]int{}
	m.off = 0
	var kept []any
	for range 300 {
		cs, state := m.body(4), m.value(3, api.KRec)
		stack := []api.Value{state, row(state, state, row(state.List...))}
		valueCells(state, met)
		kept = append(kept, state)
		for range 2 {
			fs, _ := Render(cs, state)
			treeCells(fs, met)
			kept = append(kept, fs)
			for _, e := range exprs(v(0), v(1), index(v(1), num(1)), of("l"), of("r"), op(api.EIf, op(api.ETrue), v(1), v(0))) {
				got, code := Eval(e, stack)
				if code != api.OK && code != api.ErrEvalPath {
					t.Fatal(code)
				}
				valueCells(got, met)
				kept = append(kept, got)
			}
		}
	}
	if len(met) < 10000 || len(kept) == 0 {
		t.Errorf("only %d cells", len(met))
	}
	for _, n := range met {
		if n != 1 {
			t.Fatalf("a cell lies in %d lists", n)
		}
	}
}

// spoilValue overwrites all that the lists of a value hold.
func spoilValue(v api.Value) {
	for _, one := range v.List {
		spoilValue(one)
	}
	for i := range v.List {
		v.List[i] = txt("spoilt")
	}
	for i := range v.Names {
		v.Names[i] = "spoilt"
	}
}

func spoilTrees(fs []api.Tree) {
	for i := range fs {
		spoilTrees(fs[i].Kids)
		for k := range fs[i].Attrs {
			fs[i].Attrs[k] = api.Attr{Name: "spoilt"}
		}
		fs[i] = api.Tree{Text: "spoilt"}
	}
}

func spoilCores(cs []api.Core) {
	for i := range cs {
		for _, e := range exprsIn(&cs[i]) {
			clear(e.Kids)
		}
		clear(cs[i].Fields)
		clear(cs[i].Parts)
		clear(cs[i].Exprs)
		spoilCores(cs[i].Kids)
		spoilCores(cs[i].Else)
		cs[i] = api.Core{}
	}
}

// TestR4NothingKept overwrites what was handed in, and an answer: neither an earlier nor a later answer changes.
func TestR4NothingKept(t *testing.T) {
	make := func() ([]api.Core, api.Value) { return samples(), states()[0] }
	cs, state := make()
	first, code := Render(cs, state)
	second, _ := Render(cs, state)
	want := told(first)
	if code != api.OK || told(second) != want {
		t.Fatalf("%d, %s", code, want)
	}
	spoilTrees(second)
	third, _ := Render(cs, state)
	spoilCores(cs)
	spoilValue(state)
	again, value := make()
	fourth, _ := Render(again, value)
	if told(first) != want || told(third) != want || told(fourth) != want {
		t.Errorf("%s, %s, %s, want %s", told(first), told(third), told(fourth), want)
	}
	stack := []api.Value{states()[2], row(states()[2])}
	one, _ := Eval(v(1), stack)
	two, _ := Eval(v(1), stack)
	spoilValue(two)
	expectEval(t, v(1), stack, came(row(states()[2])))
	spoilValue(row(stack...))
	if !alike(one, row(states()[2])) {
		t.Errorf("%s", shown(one))
	}
}

// TestR5NothingKept: what was asked ahead, faults among it, does not matter.
func TestR5NothingKept(t *testing.T) {
	cores := [][]api.Core{nil, samples(), {{}}, {hole(v(1))}, {hole(of("none"))}, {with(exprs(num(1), of("none")), text("x"))}, {loop(v(0), v(1), elem("p", hole(v(0))))}, {loop(v(0), v(2), elem("p"))}, {nested(63, text("x"))}}
	values := append(states(), api.Value{}, many(4096), many(4097))
	for _, ahead := range cores {
		for _, v := range values {
			for _, cs := range cores {
				Render(ahead, v)
				Eval(api.Expr{Op: api.EVar, Int: 7}, []api.Value{v})
				expectAsked(t, cs, states()[0])
			}
		}
	}
}

// TestR5Goroutines: calls at one time, with the same core and state, answer as calls one by one.
func TestR5Goroutines(t *testing.T) {
	shared, state := samples(), states()[0]
	want, _ := askedRender(shared, state)
	var group sync.WaitGroup
	for n := range 8 {
		group.Go(func() {
			m := newMaker(int64(n))
			for range 100 {
				if fs, code := Render(shared, state); code != api.OK || !forest.Same(fs, want) {
					t.Errorf("%s, %d", told(fs), code)
				}
				expectEval(t, of("l"), []api.Value{state}, came(state.List[0]))
				expectAsked(t, m.body(3), state)
			}
		})
	}
	group.Wait()
}
