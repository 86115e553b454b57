package render

import (
	"math"
	"math/rand"
	"slices"
	"strings"
	"testing"

	"stencil/api"
	"stencil/core"
	"stencil/forest"
)

// maker makes values, expressions and cores that fit one another, but for off in a hundred of their parts; behind is how many places behind the stack may be asked for.
type maker struct {
	*rand.Rand
	off, behind int
}

func newMaker(seed int64) *maker {
	return &maker{Rand: rand.New(rand.NewSource(seed)), off: 2}
}

func (m *maker) chance(n int) bool { return m.Intn(n) == 0 }

func (m *maker) pick(those ...int) int { return those[m.Intn(len(those))] }

func (m *maker) word(those ...string) string { return those[m.Intn(len(those))] }

func (m *maker) isOff() bool { return m.Intn(100) < m.off }

// letters names the fields of a record by the kinds that they have: n null, b bool, i integer, t text, l list, r record.
const letters = " nbitlr"

// value is one of that kind; lists are of records, each with a key k of its own, and records have a field of each kind, while there is room.
func (m *maker) value(room, kind int) api.Value {
	if m.isOff() {
		kind = 1 + m.Intn(6)
	}
	switch kind {
	case api.KBool:
		return truth(m.chance(2))
	case api.KInt:
		return whole(m.pick(0, 1, -1, 2, 3, 5, 63, 64, 255, math.MaxInt64, math.MinInt64, m.Int()))
	case api.KStr:
		return txt(m.word("", "a", "b", "é", "\t", "<", strings.Repeat("x", 2000), strings.Repeat("x", 4095)))
	case api.KList:
		v := row()
		for i := range m.Intn(5) * min(room, 1) {
			one := m.value(room-1, api.KRec)
			if one.Kind == api.KRec && !m.isOff() {
				key := []api.Value{whole(i), txt(m.word("a", "b") + string(rune('0'+i)))}[m.Intn(2)]
				one.Names, one.List = append(one.Names, "k"), append(one.List, key)
			}
			v.List = append(v.List, one)
		}
		return v
	case api.KRec:
		v := rec("-")
		for kind := api.KNull; kind <= api.KRec && room > 0; kind++ {
			if !m.isOff() {
				v.Names, v.List = append(v.Names, letters[kind:kind+1]), append(v.List, m.value(room-1, kind))
			}
		}
		return v
	}
	return null
}

// leaf is an expression without operations of that kind, with these kinds on the stack.
func (m *maker) leaf(kind int, stack []int) api.Expr {
	var places []api.Expr
	for place, other := range stack {
		if other == kind {
			places = append(places, v(place), v(place))
		}
		if other == api.KRec {
			places = append(places, part(v(place), letters[kind:kind+1]))
		}
	}
	if m.isOff() {
		return v(m.Intn(len(stack) + m.behind))
	}
	if len(places) > 0 && (kind > api.KStr || !m.chance(4)) {
		return places[m.Intn(len(places))]
	}
	switch kind {
	case api.KBool:
		return op(m.pick(api.EFalse, api.ETrue))
	case api.KInt:
		return num(m.pick(0, 1, 2, 3, 7, 64, math.MaxInt64))
	case api.KStr:
		return str(m.word("", "a", "\t", "é'"))
	}
	return op(api.ENull)
}

// expr is an expression of that kind, mostly, with so many in each other.
func (m *maker) expr(deep, kind int, stack []int) api.Expr {
	if m.isOff() {
		kind = 1 + m.Intn(6)
	}
	if deep == 0 || m.chance(3) {
		return m.leaf(kind, stack)
	}
	deep--
	if m.chance(6) {
		return op(api.EIf, m.expr(deep, api.KBool, stack), m.expr(deep, kind, stack), m.expr(deep, kind, stack))
	}
	any := 1 + m.Intn(6)
	switch kind {
	case api.KBool:
		switch m.Intn(5) {
		case 0:
			return op(m.pick(api.EBoth, api.EAny), m.expr(deep, kind, stack), m.expr(deep, kind, stack))
		case 1:
			return op(api.ENot, m.expr(deep, kind, stack))
		case 2:
			return op(m.pick(api.ESame, api.EOther), m.expr(deep, any, stack), m.expr(deep, any, stack))
		}
		any = m.pick(api.KInt, api.KStr)
		return op(m.pick(api.ELess, api.EMost, api.EMore, api.ELeast), m.expr(deep, any, stack), m.expr(deep, any, stack))
	case api.KInt:
		switch m.Intn(5) {
		case 0:
			return call(api.CallLen, m.expr(deep, m.pick(api.KStr, api.KList, api.KRec), stack))
		case 1:
			return call(api.CallI8+m.Intn(6), m.expr(deep, kind, stack))
		}
		return op(m.pick(api.EMul, api.EDiv, api.EMod, api.EAdd, api.ESub, api.EShl, api.EShr, api.EAnd, api.EXor, api.EOr), m.expr(deep, kind, stack), m.expr(deep, kind, stack))
	case api.KStr:
		return op(api.ECat, m.expr(deep, 1+m.Intn(4), stack), m.expr(deep, 1+m.Intn(4), stack))
	case api.KRec:
		if m.chance(4) {
			return index(m.expr(deep, api.KList, stack), num(m.Intn(2)))
		}
	}
	return m.leaf(kind, stack)
}

// kindly is an expression for these values on the stack.
func (m *maker) kindly(deep, kind int, stack []api.Value) api.Expr {
	kinds := []int{}
	for _, v := range stack {
		kinds = append(kinds, v.Kind)
	}
	e := m.expr(deep, kind, kinds)
	if m.isOff() && m.chance(5) {
		return op(api.ENot, e, wrongExprs()[m.Intn(40)])
	}
	return e
}

// shownKind is one of those that have a text.
func (m *maker) shownKind() int {
	return m.pick(api.KNull, api.KBool, api.KInt, api.KInt, api.KStr, api.KStr)
}

func (m *maker) parts(stack []int) []api.Part {
	var out []api.Part
	for range 1 + m.Intn(3) {
		if m.chance(2) && (len(out) == 0 || out[len(out)-1].Bound) {
			out = append(out, plain(m.word("x", " ", "\n", "é€", "<&>")))
		} else {
			out = append(out, bound(m.expr(2, m.shownKind(), stack)))
		}
	}
	return out
}

func (m *maker) fields(stack []int) []api.Field {
	var out []api.Field
	for _, name := range []string{"a", "a-b", "b", "c1"} {
		switch m.Intn(6) {
		case 0:
			out = append(out, boundField(name, m.expr(2, m.shownKind(), stack)))
		case 1:
			out = append(out, plainField(name, m.word("", "x", "<>")))
		}
	}
	return out
}

func (m *maker) element(deep int, stack []int) api.Core {
	c := elem(m.word("p", "x-a", "h1"), m.nodes(deep-1, stack)...)
	c.Fields = m.fields(stack)
	return c
}

func (m *maker) loop(deep int, stack []int) api.Core {
	inner := append(slices.Clone(stack), api.KRec, api.KInt)
	key := []api.Expr{part(v(len(stack)), "k"), v(len(stack) + 1), op(api.ECat, str("key"), v(len(stack)+1))}[m.Intn(3)]
	if m.isOff() {
		key = m.expr(m.Intn(2), m.pick(api.KInt, api.KStr), inner)
	}
	return loop(m.expr(1, api.KList, stack), key, m.element(deep, inner))
}

// static is a static element.
func (m *maker) static(deep int) api.Core {
	c := fields(elem(m.word("p", "x-a", "h1")), plainField("a", m.word("", "x", "<>")))
	c.Fields = c.Fields[:m.Intn(2)]
	for deep > 0 && !m.chance(3) {
		c.Kids = append(c.Kids, []api.Core{text("x"), text("é<"), m.static(deep - 1), m.static(deep - 1)}[m.Intn(4)])
	}
	return c
}

func (m *maker) node(deep int, stack []int) api.Core {
	switch m.Intn(10) {
	case 9:
		return m.static(2)
	case 0, 1:
		return parts(m.parts(stack)...)
	case 2, 3:
		return m.element(deep, stack)
	case 4, 5:
		return otherwise(when(m.expr(2, api.KBool, stack), m.nodes(deep-1, stack)...), m.nodes(deep-1, stack)...)
	case 6, 7:
		return m.loop(deep-1, stack)
	}
	var es []api.Expr
	inner := slices.Clone(stack)
	for range m.Intn(4) {
		kind := 1 + m.Intn(6)
		es, inner = append(es, m.expr(1, kind, stack)), append(inner, kind)
	}
	return with(es, m.nodes(deep-1, inner)...)
}

func (m *maker) nodes(deep int, stack []int) []api.Core {
	var out []api.Core
	for deep > 0 && !m.chance(4) && len(out) < 4 {
		out = append(out, m.node(deep, stack))
	}
	return out
}

// body is a core for a state that is a record.
func (m *maker) body(deep int) []api.Core { return m.nodes(deep, []int{api.KRec}) }

func TestP16_2Random(t *testing.T) {
	t.Parallel()
	m, met, most := newMaker(162), map[api.Errno]int{}, 0
	for i := range 5000 {
		m.off = []int{0, 0, 1, 4}[i%4]
		cs := m.body(3 + m.Intn(4))
		for range 3 {
			state := m.value(2+i%3, api.KRec)
			met[expectAsked(t, cs, state)]++
			fs, _ := Render(cs, state)
			most = max(most, forest.Count(fs))
		}
		expectAsked(t, cs, kinds()[m.Intn(len(kinds()))])
	}
	for _, code := range []api.Errno{api.ErrEvalType, api.ErrEvalOver, api.ErrEvalZero, api.ErrEvalShift, api.ErrEvalPath, api.ErrEvalIndex, api.ErrEvalLong, api.ErrRenderKey} {
		if met[code] < 20 {
			t.Errorf("few of %d: %v", code, met)
		}
	}
	if met[api.OK] < 7000 || most < 100 {
		t.Errorf("%v, %d", met, most)
	}
}

// TestP16_3Both: the forest of two lists one behind the other is both forests; and an error is the first one's, else the second's.
func TestP16_3Both(t *testing.T) {
	t.Parallel()
	m, met := newMaker(163), map[api.Errno]int{}
	for i := range 4000 {
		m.off = i % 3
		a, b, state := m.body(4), m.body(4), m.value(3, api.KRec)
		first, code := Render(a, state)
		second, other := Render(b, state)
		want := slices.Concat(first, second)
		if code == api.OK {
			code = other
		}
		if code != api.OK {
			want = nil
		}
		both := slices.Concat(a, b)
		if core.Check(both) != api.OK || len(first)+len(second) > 1000 {
			continue
		}
		fs, got := Render(both, state)
		if got != code || !forest.Same(fs, want) {
			t.Fatalf("%s and %s of %s: %s, %d, want %s, %d", shownCore(a), shownCore(b), shown(state), cut(told(fs)), got, cut(told(want)), code)
		}
		met[code]++
	}
	if met[api.OK] < 1000 || len(met) < 4 {
		t.Errorf("%v", met)
	}
}

// still is a static element as a tree.
func still(c api.Core) api.Tree {
	tree := api.Tree{Tag: c.Tag}
	for _, p := range c.Parts {
		tree.Text += p.Plain
	}
	for _, f := range c.Fields {
		tree.Attrs = append(tree.Attrs, api.Attr{Name: f.Name, Value: f.Plain})
	}
	for _, kid := range c.Kids {
		tree.Kids = append(tree.Kids, still(kid))
	}
	return tree
}

// numbered are the nodes of a core by their numbers.
func numbered(cs []api.Core) []api.Core {
	var out []api.Core
	for _, c := range cs {
		out = append(out, c)
		out = append(out, numbered(c.Kids)...)
		out = append(out, numbered(c.Else)...)
	}
	return out
}

// TestP16_3Static: what is static comes out for every state.
func TestP16_3Static(t *testing.T) {
	t.Parallel()
	m, met := newMaker(164), 0
	for range 500 {
		cs := m.body(5)
		all := numbered(cs)
		for _, number := range core.Statics(cs) {
			c := all[number]
			for _, state := range append(kinds(), m.value(3, api.KRec)) {
				fs, code := Render(list(text("x"), c), state)
				if code != api.OK || !forest.Same(fs, []api.Tree{{Text: "x"}, still(c)}) {
					t.Fatalf("%s of %s: %s, %d", shownCore(list(c)), shown(state), cut(told(fs)), code)
				}
				// Around it too, what a state says does not matter, where it is asked for nothing.
				fs, code = Render(list(with(exprs(num(1)), nested(2, c)), c), state)
				if code != api.OK || !forest.Same(fs, []api.Tree{{Tag: "p", Kids: []api.Tree{{Tag: "p", Kids: []api.Tree{still(c)}}}}, still(c)}) {
					t.Fatalf("%s of %s: %s, %d", shownCore(list(c)), shown(state), cut(told(fs)), code)
				}
			}
			if len(c.Kids) > 0 {
				met++
			}
		}
	}
	if met < 100 {
		t.Errorf("only %d with kids", met)
	}
}
