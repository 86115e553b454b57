package code

import (
	"math"
	"reflect"
	"slices"
	"strings"
	"sync"
	"testing"
	"time"
	"unsafe"

	"stencil/api"
	"stencil/value"
)

// numbers are such as an Op, an A or a count may be by mistake.
var numbers = []int{0, 1, -1, 2, 3, 5, 7, 8, 9, 31, 33, 34, 99, 255, 8192, 8193, 1 << 32, math.MaxInt64, math.MinInt64}

// TestR1Any: whatever is handed in, there is an answer, and it is the one that was asked for.
func TestR1Any(t *testing.T) {
	t.Parallel()
	m, rows := newMaker(205), asker(table())
	wrong := wrongValues()
	for range 30000 {
		var code []api.Inst
		for range m.Intn(8) {
			code = append(code, api.Inst{Op: m.pick(1+m.Intn(33), 1+m.Intn(6), m.pick(numbers...)), A: m.pick(0, 0, m.Intn(9), m.pick(numbers...))})
		}
		rows.expectCheck(t, code, m.pick(numbers...), m.pick(numbers...))
		stack, _ := m.stack(m.Intn(4))
		texts := slices.Repeat([]string{"a"}, m.Intn(4))
		if len(stack) > 0 && m.chance(6) {
			stack[m.Intn(len(stack))] = wrong[m.Intn(len(wrong))]
		}
		if len(texts) > 0 && m.chance(6) {
			texts[m.Intn(len(texts))] = m.word("\xff", strings.Repeat("x", 4097), "é"[:1])
		}
		rows.expectRun(t, code, texts, stack)
	}
}

// TestR1AnyExpr: expressions of which one thing is another one.
func TestR1AnyExpr(t *testing.T) {
	t.Parallel()
	m, met := newMaker(206), map[bool]int{}
	stack, kinds := m.stack(6)
	for range 20000 {
		e := m.expr(3, 1+m.Intn(6), kinds)
		m.bend(&e)
		may := mayBe(e)
		met[may]++
		switch {
		case !may:
			expectNone(t, e)
		case highest(e) < len(stack):
			expectRuns(t, e, stack)
		case highest(e) < math.MaxInt64:
			expectMade(t, e)
		}
	}
	if met[false] < 1000 || met[true] < 1000 {
		t.Errorf("%v", met)
	}
}

// bend makes one thing of an expression, or of what lies in it, another one.
func (m *maker) bend(e *api.Expr) {
	if len(e.Kids) > 0 && !m.chance(3) {
		m.bend(&e.Kids[m.Intn(len(e.Kids))])
		return
	}
	switch m.Intn(5) {
	case 0:
		e.Op = m.pick(1+m.Intn(31), m.pick(numbers...))
	case 1:
		e.Int = m.pick(numbers...)
	case 2:
		e.Str = m.word("", "a", "A", "\xff", "\t", strings.Repeat("a", 33), strings.Repeat("a", 4097))
	case 3:
		e.Kids = append(slices.Clone(e.Kids), v(0))
	case 4:
		e.Kids = e.Kids[:len(e.Kids)/2]
	}
}

// TestR1Shared: what lies in itself many times over is not all gone through.
func TestR1Shared(t *testing.T) {
	e, one := v(0), null
	for range 4000 {
		e, one = op(api.EAdd, e, e), row(one, one)
	}
	expectNone(t, e)
	expectRun(t, insts(api.INull, 0), nil, []api.Value{one}, failed(api.ErrEvalTree))
	negative := v(-1)
	for range 4000 {
		negative = op(api.EBoth, negative, negative)
	}
	expectNone(t, negative)
}

// TestR1Huge: long lists and texts, and what lies deep in one another.
func TestR1Huge(t *testing.T) {
	const million = 1 << 20
	long, wide := strings.Repeat("x", 1<<24), many(million)
	expectCheck(t, make([]api.Inst, million), 0, 0, api.ErrCodeLong)
	expectRun(t, make([]api.Inst, million), nil, nil, failed(api.ErrCodeLong))
	expectRun(t, insts(api.INull, 0), []string{long}, nil, failed(api.ErrCodeForm))
	expectRun(t, insts(api.INull, 0), nil, []api.Value{wide}, failed(api.ErrEvalTree))
	expectRun(t, insts(api.IVar, million-1, api.IStr, million-1, api.ICat, 0), slices.Repeat([]string{"t"}, million), slices.Repeat([]api.Value{whole(3)}, million), came(txt("3t")))
	expectNone(t, str(long))
	expectNone(t, api.Expr{Op: api.EAdd, Kids: make([]api.Expr, million)})
	expectNone(t, grown(api.ENot, 0, 4096))
	expectNone(t, grown(api.EIf, 2, 4096))
}

// spent is the least time that so many calls take.
func spent(n int, call func()) time.Duration {
	least := time.Hour
	for range 8 {
		begun := time.Now()
		for range n {
			call()
		}
		least = min(least, time.Since(begun))
	}
	return least
}

// sized are calls whose arguments are so many fifteenths of what they may be.
func sized(n int) map[string]func() {
	expect := func(fault api.Errno) {
		if fault != api.OK {
			panic(fault)
		}
	}
	sums, ends := slices.Concat(times(n*250, api.IInt, 1), times(n*250-1, api.IAdd, 0)), insts(api.ITrue, 0)
	for range n * 250 {
		ends = append(ends, insts(api.IBoth, n*500+1, api.ITrue, 0)...)
	}
	texts, stack := slices.Repeat([]string{strings.Repeat("t", 1000)}, n*60), []api.Value{many(n * 1000)}
	tree := bush(api.EAdd, n*60+1)
	run := func(code []api.Inst) func() {
		return func() {
			_, fault := Run(code, texts, stack)
			expect(fault)
		}
	}
	return map[string]func(){
		"sums": run(sums), "ends": run(ends), "copy": run(insts(api.IVar, 0)), "none": run(insts(api.INull, 0)),
		"check": func() { expect(Check(sums, 0, 0)); expect(Check(ends, 0, 0)) },
		"make":  func() { _, _, fault := Make(tree); expect(fault) },
	}
}

// TestR1Time: what is fifteen times as large takes about fifteen times as long.
func TestR1Time(t *testing.T) {
	small, large := sized(1), sized(15)
	for name, many := range large {
		short, long := spent(15, small[name]), spent(1, many)
		if long > 8*short+5*time.Millisecond {
			t.Errorf("%s: %v, fifteen of a fifteenth %v", name, long, short)
		}
	}
}

// TestR2Zero: beside an error nothing is answered.
func TestR2Zero(t *testing.T) {
	for _, e := range wrongExprs() {
		if code, texts, fault := Make(op(api.EAdd, str("a"), e)); code != nil || texts != nil || fault != api.ErrEvalTree {
			t.Errorf("%v, %q, %d", code, texts, fault)
		}
	}
	stack := []api.Value{rec("l", row(whole(1)))}
	for _, code := range [][]api.Inst{nil, insts(api.IVar, 1), insts(api.IVar, 0, api.INeg, 0), insts(api.IVar, 0, api.IVar, 0, api.IAdd, 0), insts(api.IVar, 0, api.IBool, 0), insts(api.IVar, 0, api.IInt, 9, api.IIndex, 0)} {
		if v, fault := Run(code, nil, stack); !reflect.DeepEqual(v, api.Value{}) || fault == api.OK {
			t.Errorf("%v: %v, %d", code, v, fault)
		}
	}
}

// Lists of anything, and what lies behind their ends.

// visit calls met with each list that lies in x, the inner ones behind those that hold them.
func visit(x reflect.Value, met func(list reflect.Value)) {
	switch x.Kind() {
	case reflect.Struct:
		for i := range x.NumField() {
			visit(x.Field(i), met)
		}
	case reflect.Slice:
		met(x)
		for i := range x.Len() {
			visit(x.Index(i), met)
		}
	}
}

// with is a copy of x in which each list is what copied makes of it.
func with[T any](x T, copied func(list reflect.Value) reflect.Value) T {
	visit(reflect.ValueOf(&x).Elem(), func(list reflect.Value) { list.Set(copied(list)) })
	return x
}

// roomy is a copy of a list with room for two more, which holds marks.
func roomy(list reflect.Value) reflect.Value {
	out := reflect.MakeSlice(list.Type(), list.Len()+2, list.Len()+2)
	reflect.Copy(out, list)
	for i := list.Len(); i < out.Len(); i++ {
		mark(out.Index(i))
	}
	return out.Slice(0, list.Len())
}

// mark fills all numbers and texts.
func mark(x reflect.Value) {
	switch x.Kind() {
	case reflect.Int:
		x.SetInt(77)
	case reflect.Bool:
		x.SetBool(true)
	case reflect.String:
		x.SetString("mark")
	case reflect.Struct:
		for i := range x.NumField() {
			mark(x.Field(i))
		}
	}
}

// opened is a copy of a list to the end of its room.
func opened(list reflect.Value) reflect.Value {
	out := reflect.MakeSlice(list.Type(), list.Cap(), list.Cap())
	reflect.Copy(out, list.Slice(0, list.Cap()))
	return out
}

// cells counts the cells of all lists in x by their addresses, those of their room too.
func cells(x any, met map[unsafe.Pointer]int) {
	visit(reflect.ValueOf(x), func(list reflect.Value) {
		all := list.Slice(0, list.Cap())
		for i := range all.Len() {
			met[all.Index(i).Addr().UnsafePointer()]++
		}
	})
}

// spoil overwrites the cells of all lists in x, to the ends of their room.
func spoil(x any) {
	var all []reflect.Value
	visit(reflect.ValueOf(x), func(list reflect.Value) { all = append(all, list.Slice(0, list.Cap())) })
	for _, list := range all {
		for i := range list.Len() {
			mark(list.Index(i))
		}
	}
}

// given is all that Run, Check and Make are handed.
type given struct {
	Code  []api.Inst
	Texts []string
	Stack []api.Value
	Expr  api.Expr
}

func (m *maker) given() given {
	stack, kinds := m.stack(1 + m.Intn(4))
	texts := []string{"l", "r", "t", strings.Repeat("x", 2100)}
	g := given{m.piece(0, 4, 1+m.Intn(6), len(texts), kinds), texts, stack, m.expr(4, 1+m.Intn(6), kinds)}
	switch m.Intn(5) {
	case 0:
		g.Code = m.bent(g.Code)
	case 1:
		m.bend(&g.Expr)
	case 2:
		g.Stack[0] = []api.Value{{}, {Kind: api.KInt, Str: "a"}, rec("a,a", null, null), row(null, txt("\xff"))}[m.Intn(4)]
	}
	return g
}

// TestR4ArgumentsStay: nothing that is handed in is changed, nor the room of its lists, whether it may be or not.
func TestR4ArgumentsStay(t *testing.T) {
	t.Parallel()
	m := newMaker(207)
	for range 3000 {
		g := with(m.given(), roomy)
		before := with(g, opened)
		Run(g.Code, g.Texts, g.Stack)
		Check(g.Code, len(g.Texts), len(g.Stack))
		Make(g.Expr)
		if !reflect.DeepEqual(with(g, opened), before) {
			t.Fatalf("changed: %s", shown(g))
		}
	}
}

// TestR4NewMemory: no two lists of one answer, nor of two, nor one of what was handed in, share memory, their room neither.
func TestR4NewMemory(t *testing.T) {
	m, met := newMaker(208), map[unsafe.Pointer]int{}
	// All of it is held, so that no address is given twice.
	var all []any
	for range 400 {
		g := m.given()
		g.Stack = []api.Value{m.value(3, api.KRec), row(m.value(2, api.KRec), rec("a", null)), rec("l,r", row(null), rec("a", null))}
		g = with(g, roomy)
		all = append(all, g)
		for range 2 {
			code, texts, _ := Make(g.Expr)
			again, _ := Run(code, texts, g.Stack)
			all = append(all, code, texts, again)
			for _, code := range [][]api.Inst{g.Code, insts(api.IVar, 0), insts(api.IVar, 1), insts(api.IVar, 1, api.IInt, 1, api.IIndex, 0), insts(api.IVar, 2, api.IField, 0), insts(api.IVar, 2, api.IField, 1), insts(api.ITrue, 0, api.IElse, 4, api.IVar, 0, api.IJump, 5, api.IVar, 1)} {
				v, _ := Run(code, g.Texts, g.Stack)
				all = append(all, v)
			}
		}
	}
	for _, one := range all {
		cells(one, met)
	}
	if len(met) < 10000 {
		t.Errorf("only %d cells", len(met))
	}
	for _, n := range met {
		if n != 1 {
			t.Fatalf("a cell lies in %d lists", n)
		}
	}
}

// sample is code, with texts and a stack, and an expression, all of which may be; each call makes them anew.
func sample() given {
	stack := []api.Value{rec("l,r", row(whole(1), txt("a")), rec("b", truth(true)))}
	e := op(api.EIf, part(part(v(0), "r"), "b"), part(v(0), "l"), str("else"))
	return given{insts(api.IVar, 0, api.IField, 1, api.IField, 2, api.IElse, 7, api.IVar, 0, api.IField, 0, api.IJump, 8, api.IStr, 0), []string{"l", "r", "b"}, stack, e}
}

// TestR4NothingKept overwrites what was handed in, and what was answered: neither an earlier nor a later answer changes.
func TestR4NothingKept(t *testing.T) {
	want := row(whole(1), txt("a"))
	g := with(sample(), roomy)
	first, fault := Run(g.Code, g.Texts, g.Stack)
	code, texts, _ := Make(g.Expr)
	second, _ := Run(code, texts, g.Stack)
	spoil(second)
	spoil(g)
	other := sample()
	if fault != api.OK || !alike(first, want) || Check(code, len(texts), 1) != api.OK {
		t.Errorf("%v, %d", first, fault)
	}
	expectRun(t, code, texts, other.Stack, came(want))
	spoil(code)
	spoil(texts)
	expectRun(t, other.Code, other.Texts, other.Stack, came(want))
	code, texts, _ = Make(other.Expr)
	expectRun(t, code, texts, other.Stack, came(want))
}

// TestR5Alike: equal calls answer alike, whatever was asked ahead, faults among it.
func TestR5Alike(t *testing.T) {
	t.Parallel()
	m := newMaker(209)
	for range 2000 {
		g, other := m.given(), m.given()
		code, texts, fault := Make(g.Expr)
		v, met := Run(g.Code, g.Texts, g.Stack)
		taken := Check(g.Code, len(g.Texts), len(g.Stack))
		Make(other.Expr)
		Run(other.Code, other.Texts, other.Stack)
		Check(other.Code, 1, 1)
		same := with(g, roomy)
		code2, texts2, fault2 := Make(same.Expr)
		v2, met2 := Run(same.Code, same.Texts, same.Stack)
		if !slices.Equal(code, code2) || !slices.Equal(texts, texts2) || fault != fault2 || !value.Same(v, v2) || met != met2 || taken != Check(same.Code, len(same.Texts), len(same.Stack)) {
			t.Fatalf("%s", shown(g))
		}
	}
}

// TestR5Goroutines: calls at one time, with the same arguments, answer as calls one by one.
func TestR5Goroutines(t *testing.T) {
	g, rows := sample(), asker(table())
	want := rows.run(g.Code, g.Texts, g.Stack)
	var group sync.WaitGroup
	for n := range 8 {
		group.Go(func() {
			m := newMaker(int64(n))
			for range 200 {
				expectRun(t, g.Code, g.Texts, g.Stack, want)
				code, texts, _ := Make(g.Expr)
				expectRun(t, code, texts, g.Stack, want)
				own := m.given()
				rows.expectRun(t, own.Code, own.Texts, own.Stack)
			}
		})
	}
	group.Wait()
}
