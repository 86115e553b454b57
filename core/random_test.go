package core

import (
	"math/rand"
	"slices"
	"strings"
	"testing"

	"stencil/api"
	"stencil/check"
	"stencil/syntax"
)

// maker makes random cores that may be, if they do not grow too large.
type maker struct {
	*rand.Rand
	// far is how seldom nodes end, so that limits are met; room is how many more are made.
	far, room int
}

func newMaker(seed int64) *maker {
	return &maker{Rand: rand.New(rand.NewSource(seed)), far: 3, room: 1 << 30}
}

func (m *maker) chance(n int) bool { return m.Intn(n) == 0 }

func (m *maker) pick(those ...string) string { return those[m.Intn(len(those))] }

func (m *maker) expr(stack, deep int) api.Expr {
	if deep == 0 || m.chance(3) {
		return []api.Expr{v(m.Intn(stack)), v(stack - 1), v(0), num(m.Intn(9)), str(m.pick("", "x", "\t", "é")), {Op: 1 + m.Intn(3)}}[m.Intn(6)]
	}
	kids := []api.Expr{m.expr(stack, deep-1), m.expr(stack, deep-1), m.expr(stack, deep-1)}
	return filled(1+m.Intn(31), kids...)
}

func (m *maker) exprs(n, stack int) []api.Expr {
	var out []api.Expr
	for range n {
		out = append(out, m.expr(stack, m.Intn(3)))
	}
	return out
}

func (m *maker) parts(stack int) []api.Part {
	var out []api.Part
	for range 1 + m.Intn(3) {
		if m.chance(2) && (len(out) == 0 || out[len(out)-1].Bound) {
			out = append(out, plain(m.pick("x", " ", "\n", "é€")))
		} else {
			out = append(out, bound(m.expr(stack, 2)))
		}
	}
	return out
}

func (m *maker) fields(stack int) []api.Field {
	var out []api.Field
	for _, name := range []string{"a", "a-b", "b", "c1"} {
		switch m.Intn(6) {
		case 0:
			out = append(out, boundField(name, m.expr(stack, 2)))
		case 1:
			out = append(out, plainField(name, m.pick("", "x", "<>")))
		}
	}
	return out
}

func (m *maker) element(stack, deep int) api.Core {
	c := elem(m.pick("p", "x-a", "h1"), m.nodes(stack, deep-1)...)
	c.Fields = m.fields(stack)
	return c
}

func (m *maker) node(stack, deep int) api.Core {
	switch m.Intn(8) {
	case 0, 1:
		return parts(m.parts(stack)...)
	case 2, 3, 4:
		return m.element(stack, deep)
	case 5:
		return otherwise(when(m.expr(stack, 2), m.nodes(stack, deep-1)...), m.nodes(stack, deep-1)...)
	case 6:
		return loop(m.expr(stack, 2), m.expr(stack+2, 2), m.element(stack+2, deep-1))
	}
	n := m.Intn(4)
	return with(m.exprs(n, stack), m.nodes(stack+n, deep-1)...)
}

func (m *maker) nodes(stack, deep int) []api.Core {
	var out []api.Core
	for deep > 0 && m.room > 0 && !m.chance(m.far) && len(out) < 4 {
		m.room--
		out = append(out, m.node(stack, deep))
	}
	return out
}

// own is a copy of a core that shares no lists with it.
func own(cs []api.Core) []api.Core {
	out := slices.Clone(cs)
	for i := range out {
		c := &out[i]
		c.Fields, c.Parts, c.Exprs = slices.Clone(c.Fields), slices.Clone(c.Parts), slices.Clone(c.Exprs)
		for _, e := range exprsIn(c) {
			*e = ownExpr(*e)
		}
		c.Kids, c.Else = own(c.Kids), own(c.Else)
	}
	return out
}

func ownExpr(e api.Expr) api.Expr {
	e.Kids = slices.Clone(e.Kids)
	for i := range e.Kids {
		e.Kids[i] = ownExpr(e.Kids[i])
	}
	return e
}

// exprsIn are all expressions that lie in a node, whether they are bound or not.
func exprsIn(c *api.Core) []*api.Expr {
	var out []*api.Expr
	for i := range c.Fields {
		out = append(out, &c.Fields[i].Expr)
	}
	for i := range c.Parts {
		out = append(out, &c.Parts[i].Expr)
	}
	for i := range c.Exprs {
		out = append(out, &c.Exprs[i])
	}
	return out
}

// every are all nodes, to be changed.
func every(cs []api.Core) []*api.Core {
	var out []*api.Core
	for i := range cs {
		out = append(out, &cs[i])
		out = append(out, every(cs[i].Kids)...)
		out = append(out, every(cs[i].Else)...)
	}
	return out
}

func everyExpr(e *api.Expr) []*api.Expr {
	out := []*api.Expr{e}
	for i := range e.Kids {
		out = append(out, everyExpr(&e.Kids[i])...)
	}
	return out
}

// spoil changes one thing of one node.
func (m *maker) spoil(cs []api.Core) {
	all := every(cs)
	if len(all) == 0 {
		return
	}
	c := all[m.Intn(len(all))]
	switch m.Intn(10) {
	case 0:
		c.Kind = m.Intn(8) - 1
	case 1:
		c.Tag = m.pick("", "P", "p", "\xff", strings.Repeat("a", 33))
	case 2:
		c.Kids = m.pickCores(c.Kids)
	case 3:
		c.Else = m.pickCores(c.Else)
	case 4:
		c.Exprs = m.pickExprs(c.Exprs)
	case 5:
		m.spoilPart(c)
	case 6:
		m.spoilField(c)
	default:
		m.spoilExpr(c)
	}
}

func (m *maker) pickCores(cs []api.Core) []api.Core {
	if len(cs) > 0 && m.chance(2) {
		return cs[1:]
	}
	return append(cs, []api.Core{{}, text("x"), elem("p"), hole(v(1)), with(nulls(63))}[m.Intn(5)])
}

func (m *maker) pickExprs(es []api.Expr) []api.Expr {
	if len(es) > 0 && m.chance(2) {
		return es[1:]
	}
	return append(es, m.anyExpr(2))
}

func (m *maker) spoilPart(c *api.Core) {
	if len(c.Parts) == 0 || m.chance(3) {
		c.Parts = append(c.Parts, api.Part{Plain: m.pick("", "x", "\xff"), Bound: m.chance(2), Expr: m.anyExpr(1)})
		return
	}
	p := &c.Parts[m.Intn(len(c.Parts))]
	switch m.Intn(3) {
	case 0:
		p.Plain = m.pick("", "\xff", "x", strings.Repeat("x", 4097))
	case 1:
		p.Bound = !p.Bound
	case 2:
		c.Parts = c.Parts[1:]
	}
}

func (m *maker) spoilField(c *api.Core) {
	if len(c.Fields) == 0 || m.chance(3) {
		c.Fields = append(c.Fields, api.Field{Name: m.pick("", "a", "z", "\xff"), Plain: m.pick("", "x", "\xff"), Bound: m.chance(2), Expr: m.anyExpr(1), At: m.Intn(5) / 4})
		return
	}
	f := &c.Fields[m.Intn(len(c.Fields))]
	switch m.Intn(5) {
	case 0:
		f.Plain = m.pick("", "\xff", "x", strings.Repeat("x", 4097))
	case 1:
		f.Bound = !f.Bound
	case 2:
		f.Name = m.pick("", "a", "b", "B", "a_")
	case 3:
		f.At = m.Intn(3) - 1
	case 4:
		slices.Reverse(c.Fields)
	}
}

func (m *maker) spoilExpr(c *api.Core) {
	roots := exprsIn(c)
	if len(roots) == 0 {
		return
	}
	nodes := everyExpr(roots[m.Intn(len(roots))])
	e := nodes[m.Intn(len(nodes))]
	switch m.Intn(5) {
	case 0:
		*e = v(m.Intn(12) - 1)
	case 1:
		e.Op = m.Intn(36) - 2
	case 2:
		e.Int = m.Intn(12) - 2
	case 3:
		e.Str = m.pick("", "a", "\xff", "\t", "A")
	case 4:
		e.Kids = m.pickExprs(e.Kids)
	}
}

// anyExpr may be, or not.
func (m *maker) anyExpr(deep int) api.Expr {
	if m.chance(2) {
		return v(m.Intn(4))
	}
	e := api.Expr{Op: m.Intn(36) - 2, Int: m.Intn(12) - 2, Str: m.pick("", "", "a", "null", "\xff")}
	for n := m.Intn(4); n > 0 && deep > 0; n-- {
		e.Kids = append(e.Kids, m.anyExpr(deep-1))
	}
	return e
}

func TestP15Random(t *testing.T) {
	t.Parallel()
	m, met, statics, loops := newMaker(151), map[api.Errno]int{}, 0, 0
	for range 20000 {
		cs := m.nodes(1, 5)
		met[expectAsked(t, cs)]++
		statics = max(statics, len(Statics(cs)))
		loops = max(loops, Loops(cs))
	}
	if met[api.OK] < 19000 || statics < 5 || loops < 2 {
		t.Errorf("%v, %d, %d", met, statics, loops)
	}
}

// TestP15RandomFar: such as grow to the limits.
func TestP15RandomFar(t *testing.T) {
	t.Parallel()
	m, met := newMaker(152), map[api.Errno]int{}
	for i := range 600 {
		m.far, m.room = 9+i%3*8, 100+m.Intn(900)
		met[expectAsked(t, m.nodes(1, 7+i%5))]++
	}
	expectCodes(t, met, 20, api.OK, api.ErrCoreLarge)
	m.room = 1 << 30
	// One node in the other, with little beside it.
	met = map[api.Errno]int{}
	for range 3000 {
		met[expectAsked(t, list(m.shaft(1, 40+m.Intn(200))))]++
	}
	expectCodes(t, met, 100, api.OK, api.ErrCoreDeep)
}

// shaft is a core of so many nodes in one another.
func (m *maker) shaft(stack, deep int) api.Core {
	if deep == 0 {
		return hole(v(stack - 1))
	}
	switch m.Intn(9) {
	case 0:
		if m.chance(3) {
			return loop(v(0), v(stack+1), elem("p", m.shaft(stack+2, deep-1)))
		}
		return with([]api.Expr{v(stack - 1)}, m.shaft(stack+1, deep-1))
	case 1, 2:
		return elem("p", m.shaft(stack, deep-1))
	case 3:
		return otherwise(when(v(stack-1)), m.shaft(stack, deep-1))
	case 4:
		return when(v(stack-1), m.shaft(stack, deep-1))
	}
	return with(nil, m.shaft(stack, deep-1))
}

func TestP15RandomSpoilt(t *testing.T) {
	t.Parallel()
	m, met := newMaker(153), map[api.Errno]int{}
	for range 60000 {
		cs := own(m.nodes(1, 4))
		for range 1 + m.Intn(3) {
			m.spoil(cs)
		}
		met[expectAsked(t, cs)]++
	}
	expectCodes(t, met, 5, api.OK, api.ErrCoreForm, api.ErrCoreExpr, api.ErrCoreName, api.ErrCoreDeep)
}

// template is a random one, of which most may be.
func (m *maker) template(deep int) string {
	s := ""
	for range m.Intn(5) {
		if deep == 0 {
			return s + m.pick("x", " ", "{{ a }}", "{{ x + 1 }}y")
		}
		switch m.Intn(7) {
		case 0:
			s += `<p b="1"` + m.pick("", ` :c="x.y"`, ` a=""`) + `>` + m.template(deep-1) + `</p>`
		case 1:
			s += `<if :test="` + m.pick("a", "x == 1") + `">` + m.template(deep-1) + `</if>` + m.pick("", ` <else>`+m.template(deep-1)+`</else>`)
		case 2:
			s += `<for each="x" ` + m.pick("", `at="i" `) + `:in="` + m.pick("x", "xs") + `" :key="x"><li>` + m.template(deep-1) + `</li></for>`
		case 3:
			s += `<u t="` + m.pick("", "v") + `">` + m.template(deep-1) + `</u>`
		case 4:
			s += `<w :t="x" u="1"><fill let="z">{{ z }}` + m.template(deep-1) + `</fill></w>`
		case 5:
			s += `<b><i>static</i></b>`
		default:
			s += m.pick("x", " ", "{{ a }}", "{{ x + 1 }}y")
		}
	}
	return s
}

// TestP14_4Random: what check answers may be, with every limit that it tells.
func TestP14_4Random(t *testing.T) {
	t.Parallel()
	m, met := newMaker(154), map[api.Errno]int{}
	defs := `<def name="u" props="t"><p :a="t"><slot/></p><slot>{{ t }}</slot></def><def name="w" props="t u"><u :t="t"><slot :z="u"/><slot :z="t ~ u"><b/></slot></u></def>`
	for i := range 4000 {
		ns, _, code := syntax.Parse(defs + m.template(2+i%3))
		if code != api.OK {
			continue
		}
		cs, _, code := check.Check(ns)
		met[code]++
		if code == api.OK {
			expect(t, api.OK, cs...)
		}
	}
	if met[api.OK] < 3000 || met[api.ErrCheckLarge] < 10 {
		t.Errorf("%v", met)
	}
}
