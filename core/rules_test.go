package core

import (
	"math/rand"
	"slices"
	"sync"
	"testing"
	"time"
	"unsafe"

	"stencil/api"
)

// anyCores may be, or not.
func (m *maker) anyCores(deep int) []api.Core {
	var cs []api.Core
	for n := m.Intn(4); n > 0 && deep > 0; n-- {
		c := api.Core{Kind: m.Intn(5) + 1, Kids: m.anyCores(deep - 1)}
		switch c.Kind {
		case api.CText:
			c.Kids, c.Parts = nil, m.parts(3)
		case api.CElem:
			c.Tag, c.Fields = m.pick("p", "q"), m.fields(3)
		case api.CIf:
			c.Exprs, c.Else = []api.Expr{m.anyExpr(1)}, m.anyCores(deep-1)
		case api.CFor:
			c.Exprs = []api.Expr{m.anyExpr(1), v(m.Intn(4))}
			if len(c.Kids) > 0 {
				c.Kids = c.Kids[:1]
			}
		case api.CWith:
			c.Exprs = m.exprs(m.Intn(3), 4)
		}
		cs = append(cs, c)
	}
	if m.chance(4) {
		cs = own(cs)
		m.spoil(cs)
	}
	return cs
}

// TestR1Any: whatever is handed in, there is an answer, and it is the one that was asked for.
func TestR1Any(t *testing.T) {
	t.Parallel()
	m, met := newMaker(155), map[api.Errno]int{}
	for range 40000 {
		met[expectAsked(t, m.anyCores(3))]++
	}
	if len(met) < 4 {
		t.Errorf("%v", met)
	}
}

// expectAll holds all four against what is asked for of a core that is too large to be laid out.
func expectAll(t *testing.T, want api.Errno, cs []api.Core) {
	t.Helper()
	if code := Check(cs); code != want {
		t.Errorf("Check: %d, want %d", code, want)
	}
	if n, l, s := Count(cs), Loops(cs), Statics(cs); n != 0 || l != 0 || len(s) != 0 {
		t.Errorf("%d, %d, %v", n, l, s)
	}
}

// TestR1Shared: what lies in itself many times over is not all gone through.
func TestR1Shared(t *testing.T) {
	e, bad := v(0), api.Expr{Op: api.ENot}
	for range 60 {
		e, bad = op(api.EAdd, e, e), op(api.EAdd, bad, bad)
	}
	for _, one := range []api.Expr{e, bad} {
		for _, c := range homes(one) {
			expectAll(t, api.ErrCoreLarge, list(c))
		}
		// Where no expression is asked for it does not matter how large it is.
		expectAll(t, api.ErrCoreForm, list(parts(api.Part{Plain: "x", Expr: one})))
		expectAll(t, api.ErrCoreForm, list(fields(elem("p"), api.Field{Name: "a", Expr: one})))
	}
	for _, make := range []func(cs []api.Core) api.Core{
		func(cs []api.Core) api.Core { return with(nil, cs...) },
		func(cs []api.Core) api.Core { return when(v(0), cs...) },
		func(cs []api.Core) api.Core { return otherwise(when(v(0), cs...), cs...) },
		func(cs []api.Core) api.Core { return elem("p", cs...) },
	} {
		cs := list(elem("q"))
		for range 60 {
			c := make(cs)
			cs = list(c, c)
		}
		expectAll(t, api.ErrCoreLarge, cs)
	}
	bare := list(with(nil))
	for range 60 {
		bare = list(api.Core{Kids: bare, Else: bare}, api.Core{Kids: bare})
	}
	expectAll(t, api.ErrCoreForm, bare)
}

// TestR1Huge: long lists end as soon as there are too many pieces, and so do nodes that lie deep in one another.
func TestR1Huge(t *testing.T) {
	million := 1 << 20
	expectAll(t, api.ErrCoreLarge, slices.Repeat(list(elem("p")), million))
	expectAll(t, api.ErrCoreLarge, list(elem("p", slices.Repeat(list(elem("p")), million)...)))
	expectAll(t, api.ErrCoreLarge, list(fields(elem("p"), make([]api.Field, million)...)))
	expectAll(t, api.ErrCoreLarge, list(parts(make([]api.Part, million)...)))
	expectAll(t, api.ErrCoreLarge, list(with(nulls(million))))
	expectAll(t, api.ErrCoreLarge, list(hole(op(api.EAdd, nulls(million)...))))
	expectAll(t, api.ErrCoreForm, list(api.Core{Kind: api.CText, Kids: slices.Repeat(list(elem("p")), million)}))
	long := string(make([]byte, 1<<24))
	expectAll(t, api.ErrCoreForm, list(text(long)))
	expectAll(t, api.ErrCoreForm, list(elem(long)))
	expectAll(t, api.ErrCoreForm, list(fields(elem("p"), plainField(long, ""))))
	expectAll(t, api.ErrCoreForm, list(fields(elem("p"), plainField("a", long))))
	expectAll(t, api.ErrCoreExpr, list(hole(str(long))))
	expectAll(t, api.ErrCoreExpr, list(hole(part(v(0), long))))
	deep, els := text("x"), text("x")
	for range 4095 {
		deep, els = with(nil, deep), api.Core{Kind: api.CIf, Exprs: []api.Expr{v(0)}, Else: list(els)}
	}
	expectAll(t, api.ErrCoreLarge, list(deep))
	expectAll(t, api.ErrCoreLarge, list(els))
	expectAll(t, api.ErrCoreExpr, list(hole(chain(4094))))
	expectAll(t, api.ErrCoreLarge, list(hole(chain(4096))))
}

// largeCores are cores of so many sixteenths of what may be.
func largeCores(n int) map[string][]api.Core {
	n *= api.MaxCore / 16
	full := string(slices.Repeat([]byte("x"), api.MaxStr))
	comb := elem("p")
	for range 61 {
		comb = elem("p", comb, elem("q"))
	}
	stack := elem("p", hole(v(0)))
	for range 60 {
		stack = elem("p", elem("q"), stack)
	}
	return map[string][]api.Core{
		"elements":  slices.Repeat(list(elem("p")), n),
		"texts":     slices.Repeat(list(text(full)), n/2),
		"fields":    slices.Repeat(list(fields(elem("p"), plainField("a", full), plainField("b", "x"))), n/3),
		"holes":     slices.Repeat(list(hole(bush(100))), n/102),
		"withs":     slices.Repeat(list(tower(hole(v(8)), 3, 3, 3)), n/24),
		"loops":     slices.Repeat(list(looped(8, text("x"))), n/60),
		"static":    slices.Repeat(list(comb), n/130),
		"no static": slices.Repeat(list(stack), n/130),
	}
}

// spent is the least time that n calls take.
func spent(n int, call func()) time.Duration {
	least := time.Hour
	for range 12 {
		begun := time.Now()
		for range n {
			call()
		}
		least = min(least, time.Since(begun))
	}
	return least
}

// TestR1Time: what is sixteen times as large takes about sixteen times as long.
func TestR1Time(t *testing.T) {
	small, large := largeCores(1), largeCores(16)
	for name, many := range large {
		few := small[name]
		if Check(many) != api.OK || len(few) == 0 {
			t.Fatalf("%s: %d", name, Check(many))
		}
		for which, call := range map[string]func([]api.Core){"Check": func(cs []api.Core) { Check(cs) }, "Count": func(cs []api.Core) { Count(cs) }, "Loops": func(cs []api.Core) { Loops(cs) }, "Statics": func(cs []api.Core) { Statics(cs) }} {
			short, long := spent(16, func() { call(few) }), spent(1, func() { call(many) })
			if long > 8*short+time.Millisecond {
				t.Errorf("%s of %s: %v, sixteen of a sixteenth %v", which, name, long, short)
			}
		}
	}
}

// roomy is a copy of a core whose lists have spare room, which holds a mark.
func roomy(cs []api.Core) []api.Core {
	out := withRoom(cs, api.Core{Tag: "mark"})
	for i := range out {
		c := &out[i]
		c.Fields, c.Parts, c.Exprs = withRoom(c.Fields, api.Field{Name: "mark"}), withRoom(c.Parts, api.Part{Plain: "mark"}), withRoom(c.Exprs, api.Expr{Str: "mark"})
		for _, e := range exprsIn(c) {
			*e = roomyExpr(*e)
		}
		c.Kids, c.Else = roomy(c.Kids), roomy(c.Else)
	}
	return out
}

func roomyExpr(e api.Expr) api.Expr {
	e.Kids = withRoom(e.Kids, api.Expr{Str: "mark"})
	for i := range e.Kids {
		e.Kids[i] = roomyExpr(e.Kids[i])
	}
	return e
}

func withRoom[T any](list []T, mark T) []T {
	return append(append(make([]T, 0, len(list)+2), list...), mark, mark)[:len(list)]
}

// opened is a core with the spare room of its lists, in a copy.
func opened(cs []api.Core) []api.Core {
	out := slices.Clone(cs[:cap(cs)])
	for i := range out {
		c := &out[i]
		c.Fields, c.Parts, c.Exprs = slices.Clone(c.Fields[:cap(c.Fields)]), slices.Clone(c.Parts[:cap(c.Parts)]), slices.Clone(c.Exprs[:cap(c.Exprs)])
		for _, e := range exprsIn(c) {
			*e = openedExpr(*e)
		}
		c.Kids, c.Else = opened(c.Kids), opened(c.Else)
	}
	return out
}

func openedExpr(e api.Expr) api.Expr {
	e.Kids = slices.Clone(e.Kids[:cap(e.Kids)])
	for i := range e.Kids {
		e.Kids[i] = openedExpr(e.Kids[i])
	}
	return e
}

func sameExpr(a, b api.Expr) bool {
	return a.Op == b.Op && a.Int == b.Int && a.Str == b.Str && slices.EqualFunc(a.Kids, b.Kids, sameExpr)
}

func samePart(a, b api.Part) bool {
	return a.Plain == b.Plain && a.Bound == b.Bound && sameExpr(a.Expr, b.Expr)
}

func sameField(a, b api.Field) bool {
	return a.Name == b.Name && a.Plain == b.Plain && a.Bound == b.Bound && a.At == b.At && sameExpr(a.Expr, b.Expr)
}

func sameCore(a, b api.Core) bool {
	return a.Kind == b.Kind && a.Tag == b.Tag && slices.EqualFunc(a.Fields, b.Fields, sameField) && slices.EqualFunc(a.Parts, b.Parts, samePart) && slices.EqualFunc(a.Exprs, b.Exprs, sameExpr) && slices.EqualFunc(a.Kids, b.Kids, sameCore) && slices.EqualFunc(a.Else, b.Else, sameCore)
}

// TestR4CoresStay: neither a core nor the spare room of its lists is changed, whether it may be or not.
func TestR4CoresStay(t *testing.T) {
	t.Parallel()
	m := newMaker(156)
	for i := range 3000 {
		cs := m.nodes(1, 4)
		if i%3 == 0 {
			cs = own(cs)
			m.spoil(cs)
		}
		given := roomy(cs)
		before := opened(given)
		Check(given)
		Count(given)
		Loops(given)
		Statics(given)
		if !slices.EqualFunc(opened(given), before, sameCore) {
			t.Fatalf("changed: %s", shown(cs))
		}
	}
}

// TestR4NewNumbers: no two answers share memory, their spare room neither.
func TestR4NewNumbers(t *testing.T) {
	met := map[unsafe.Pointer]int{}
	m := newMaker(157)
	for range 500 {
		cs := m.nodes(1, 4)
		for range 2 {
			numbers := Statics(cs)
			for i := range numbers[:cap(numbers)] {
				met[unsafe.Pointer(&numbers[:cap(numbers)][i])]++
			}
		}
	}
	if len(met) < 1000 {
		t.Errorf("only %d cells", len(met))
	}
	for _, n := range met {
		if n != 1 {
			t.Fatalf("a cell lies in %d answers", n)
		}
	}
}

// TestR4AnswersStay overwrites what was handed in, and an answer: neither an earlier nor a later answer changes.
func TestR4AnswersStay(t *testing.T) {
	make := func() []api.Core {
		return list(elem("a", text("x")), elem("b", hole(v(0)), elem("c")), otherwise(when(v(0), elem("d")), elem("e")))
	}
	want := []int{0, 4, 6, 7}
	cs := make()
	first, second := Statics(cs), Statics(cs)
	clear(second)
	third := Statics(cs)
	cs[2].Else[0].Tag = "P"
	fourth := Statics(cs)
	clear(cs)
	if !slices.Equal(first, want) || !slices.Equal(third, want) || len(fourth) != 0 || !slices.Equal(Statics(make()), want) {
		t.Errorf("%v, %v, %v, want %v", first, third, fourth, want)
	}
}

// TestR5NothingKept: what was asked ahead, faults among it, does not matter.
func TestR5NothingKept(t *testing.T) {
	all := [][]api.Core{nil, samples(), {{}}, {text("")}, {hole(v(1))}, {hole(api.Expr{})}, {looped(9, text("x"))}, {looped(8, text("x"))}, {nested(64, text("x"))}, {with(nulls(64))}, {with(nulls(63))}, slices.Repeat(list(elem("p")), 4096), slices.Repeat(list(elem("p")), 4097)}
	for _, ahead := range all {
		for _, cs := range all {
			Check(ahead)
			Statics(ahead)
			expectAsked(t, cs)
		}
	}
}

// TestR5Goroutines: calls at one time, with the same core, answer as calls one by one.
func TestR5Goroutines(t *testing.T) {
	shared := samples()
	statics, count, loops := askedStatics(laid(shared)), len(laid(shared)), askedLoops(laid(shared))
	var group sync.WaitGroup
	for n := range 8 {
		group.Go(func() {
			m := &maker{Rand: rand.New(rand.NewSource(int64(n))), far: 3, room: 1 << 30}
			for range 200 {
				if Check(shared) != api.OK || Count(shared) != count || Loops(shared) != loops || !slices.Equal(Statics(shared), statics) {
					t.Errorf("%d, %d, %d, %v", Check(shared), Count(shared), Loops(shared), Statics(shared))
				}
				expectAsked(t, m.nodes(1, 3))
			}
		})
	}
	group.Wait()
}
