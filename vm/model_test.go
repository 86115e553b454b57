package vm

import (
	"fmt"
	"reflect"
	"slices"
	"strings"
	"testing"

	"stencil/api"
	"stencil/check"
	"stencil/core"
	"stencil/model"
	"stencil/render"
	"stencil/syntax"
)

// What chapter 19 says of a core, the machine must do with a program that says the same.

// writing makes a program of a core, in one of eight ways.
type writing struct {
	api.Options
	// stills are the numbers of the static elements; number is that of the next node.
	stills []int
	number int
}

// written is a program of a core.
func written(cs []api.Core, o api.Options) api.Program {
	w := &writing{Options: o, stills: core.Statics(cs)}
	p := programOf(func(m *making) { w.nodes(m, cs) })
	if o.Flags {
		p = listing(p, isFlagged)
	}
	return p
}

func (w *writing) nodes(m *making, cs []api.Core) {
	for _, c := range cs {
		w.node(m, c)
	}
}

func (w *writing) node(m *making, c api.Core) {
	if slices.Contains(w.stills, w.number) && w.Hoist {
		w.number += core.Count([]api.Core{c})
		fs, _ := render.Render([]api.Core{c}, api.Value{Kind: api.KNull})
		static(fs[0])(m)
		return
	}
	w.number++
	switch c.Kind {
	case api.CText:
		w.text(m, c.Parts)
	case api.CElem:
		m.add(api.Op{Kind: api.OpOpen, A: m.text(c.Tag)})
		for _, f := range c.Fields {
			if f.Bound {
				m.add(api.Op{Kind: api.OpAttrX, A: m.text(f.Name), B: m.exprCode(f.Expr)})
			} else {
				m.add(api.Op{Kind: api.OpAttr, A: m.text(f.Name), B: m.text(f.Plain)})
			}
		}
		w.nodes(m, c.Kids)
		m.add(api.Op{Kind: api.OpClose})
	case api.CIf:
		op := api.Op{Kind: api.OpIf, A: m.exprCode(c.Exprs[0])}
		op.B, op.C = w.block(m, 0, c.Kids), w.block(m, 0, c.Else)
		m.add(op)
	case api.CFor:
		m.add(api.Op{Kind: api.OpFor, A: m.exprCode(c.Exprs[0]), B: m.exprCode(c.Exprs[1]), C: w.block(m, 2, c.Kids)})
	case api.CWith:
		w.with(m, c)
	}
}

// block is 0 of no nodes.
func (w *writing) block(m *making, more int, cs []api.Core) int {
	if len(cs) == 0 {
		return 0
	}
	return m.block(more, parts(func(m *making) { w.nodes(m, cs) }))
}

// text is one operation, of several parts their texts in their row.
func (w *writing) text(m *making, ps []api.Part) {
	if len(ps) == 1 && !ps[0].Bound {
		text(ps[0].Plain)(m)
		return
	}
	var all api.Expr
	for i, p := range ps {
		one := api.Expr{Op: api.EStr, Str: p.Plain}
		if p.Bound {
			one = api.Expr{Op: api.ECall, Int: api.CallStr, Kids: []api.Expr{p.Expr}}
		}
		if i > 0 {
			one = api.Expr{Op: api.ECat, Kids: []api.Expr{all, one}}
		}
		all = one
	}
	m.add(api.Op{Kind: api.OpTextX, A: m.exprCode(all)})
}

func (w *writing) with(m *making, c api.Core) {
	op := api.Op{Kind: api.OpWith}
	for _, e := range c.Exprs {
		op.List = append(op.List, m.exprCode(e))
	}
	if !w.Inline {
		op.C = m.block(len(op.List), parts(func(m *making) { w.nodes(m, c.Kids) }))
		m.add(op)
		return
	}
	for _, code := range op.List {
		m.add(api.Op{Kind: api.OpLet, A: code})
		m.Depth++
	}
	w.nodes(m, c.Kids)
	if len(op.List) > 0 {
		drop(len(op.List))(m)
	}
}

func template(t *testing.T, s string) []api.Core {
	t.Helper()
	nodes, at, code := syntax.Parse(s)
	if code == api.OK {
		var cs []api.Core
		if cs, at, code = check.Check(nodes); code == api.OK {
			return cs
		}
	}
	t.Fatalf("%s: %d at %d", s, code, at)
	return nil
}

// asModel is the machine's error in place of the model's.
func asModel(code api.Errno) api.Errno {
	switch code {
	case api.ErrRenderKey:
		return api.ErrVmKey
	case api.ErrRenderLarge:
		return api.ErrVmLarge
	case api.ErrModelFull:
		return api.ErrVmFull
	case api.ErrModelMounted:
		return api.ErrVmMounted
	case api.ErrModelBare:
		return api.ErrVmBare
	}
	return code
}

// ways are all eight.
func ways() []api.Options {
	var out []api.Options
	for n := range 8 {
		out = append(out, api.Options{Hoist: n&1 > 0, Flags: n&2 > 0, Inline: n&4 > 0})
	}
	return out
}

// expectModel makes random calls of the machines of a core's eight programs, and of its model: all show the same.
func expectModel(t *testing.T, m *maker, s string, room, calls int, state func() api.Value, met map[api.Errno]int) api.Counts {
	t.Helper()
	cs := template(t, s)
	want, code := model.New(cs, room)
	if code != api.OK {
		t.Fatal(code)
	}
	var all []*Vm
	for _, o := range ways() {
		x, code := New(written(cs, o), room)
		if code != api.OK {
			t.Fatalf("%s, %+v: %d", s, o, code)
		}
		all = append(all, x)
	}
	for range calls {
		n, v := m.Intn(20), state()
		answers := func(mount, update func(api.Value) api.Errno, unmount func() api.Errno) api.Errno {
			switch {
			case n == 0:
				return unmount()
			case n == 1 || want.Counts() == (api.Counts{}):
				return mount(v)
			}
			if code := update(v); code != api.ErrVmBare && code != api.ErrModelBare {
				return code
			}
			return mount(v)
		}
		var codes []api.Errno
		for _, x := range all {
			codes = append(codes, answers(x.Mount, x.Update, x.Unmount))
		}
		code := asModel(answers(want.Mount, want.Update, want.Unmount))
		met[code]++
		picture := pictured(want.Cells(), want.Free(), want.Counts(), want.Forest())
		for i, x := range all {
			if got := pictureOf(x); codes[i] != code || !reflect.DeepEqual(got, picture) {
				t.Fatalf("%s, %+v, %s: %d, want %d\n%s\nwant\n%s", s, ways()[i], cut(v), codes[i], code, cut(got), cut(picture))
			}
		}
	}
	return want.Counts()
}

// pages are templates that are asked with a state of a record.
func pages() []string {
	row := `<li :a="x.v" c="1" :d="x.b">{{ x.v }}<if :test="x.b"><i>{{ x.w }}</i></if></li>`
	loop := `<for each="x" :in="l" :key="x.k">` + row + `</for>`
	return []string{
		``, `<p a="1">x<b/></p>`, `{{ v }}<p :a="v" :b="b" c="1"/>{{ w }}`, loop, `a<ul>` + loop + `</ul>b`, loop + `<p/>` + strings.ReplaceAll(loop, `"l"`, `"m"`),
		`<if :test="b">` + loop + `</if><else><p>` + loop + `</p></else>`, `<p><if :test="b">x<i>y<b/></i></if><else><i/>{{ v }}</else><u/></p>`,
		`<for each="y" :in="m" :key="y.k"><p :e="y.w">{{ y.v }}<for each="x" :in="y.l" :key="x.k">` + row + `</for><if :test="y.b">z</if></p></for>`,
		`<for each="z" :in="l" :key="z.k"><p><for each="y" :in="z.l" :key="y.k"><q><for each="x" :in="y.l" :key="x.k">` + row + `</for></q></for></p></for>`,
		`<def name="d-a" props="r"><u><slot/></u><for each="e" :in="r" :key="e.k"><i><slot name="in" :x="e"/></i></for></def><d-a :r="l"><fill>{{ v }}</fill><fill name="in" let="x">` + row + `</fill></d-a><d-a :r="m"/>`,
		`<for each="x" at="i" :in="l" :key="i"><p :n="i">a{{ x.k }}b{{ x.v }}{{ i }}<i c="1">z</i></p></for>`, `{{ v }}<for each="x" :in="m" :key="x.k"><i c="1">z<b/></i></for>{{ w }}`,
	}
}

// TestP23_5Model: pages that show much of what they are given, with states that fit and states that do not.
func TestP23_5Model(t *testing.T) {
	t.Parallel()
	m, met, all := newMaker(232), map[api.Errno]int{}, api.Counts{}
	for _, s := range pages() {
		for i := range 8 {
			m.off = i % 3
			all = sum(all, expectModel(t, m, s, []int{20, 60, 150, 400}[i%4], 15, func() api.Value { return datum(t, m.record(1+i%3, 0)) }, met))
		}
	}
	if met[api.OK] < 500 || met[api.ErrVmFull] < 50 || met[api.ErrVmKey] < 5 || met[api.ErrVmBare] < 5 || met[api.ErrVmMounted] < 10 || met[api.ErrEvalType] < 50 {
		t.Errorf("%v", met)
	}
	if min(all.Created, all.Placed, all.Moved, all.Removed, all.Freed, all.Attrs, all.Texts) < 300 {
		t.Errorf("%+v", all)
	}
}

// TestP23_5ModelRandom: the same of random templates.
func TestP23_5ModelRandom(t *testing.T) {
	t.Parallel()
	m, met, all := newMaker(233), map[api.Errno]int{}, api.Counts{}
	for i := range 150 {
		m.off = i % 3
		bound := 0
		s := `<p>` + m.nodes(3+i%3, &bound, "s") + `</p>`
		all = sum(all, expectModel(t, m, s, []int{20, 60, 150, 400}[i%4], 15, func() api.Value { return datum(t, `{"s": `+m.record(1+i%2, 0)+`}`) }, met))
	}
	if met[api.OK] < 800 || met[api.ErrVmFull] < 50 || min(all.Created, all.Placed, all.Moved, all.Removed, all.Freed, all.Attrs, all.Texts) < 200 {
		t.Errorf("%v, %+v", met, all)
	}
}

// nodes are some of a template in which those names are bound to records.
func (m *maker) nodes(deep int, bound *int, names ...string) string {
	var out strings.Builder
	for deep > 0 && !m.chance(4) && out.Len() < 1000 {
		out.WriteString(m.templateNode(deep-1, bound, names))
	}
	return out.String()
}

func (m *maker) templateNode(deep int, bound *int, names []string) string {
	r := m.word(names...)
	switch m.Intn(6) {
	case 0:
		return m.word("x", "é") + "{{ " + r + "." + m.either("v", "l", "z") + " }}" + m.word("", "y")
	case 1:
		return m.word("<i/>", `<i c="1">z<b/></i>`)
	case 2:
		return m.templateElement(deep, bound, names)
	case 3:
		return `<if :test="` + r + "." + m.either("b", "v") + `">` + m.nodes(deep, bound, names...) + `</if><else>` + m.nodes(deep, bound, names...) + `</else>`
	}
	*bound++
	x, i := fmt.Sprint("x", *bound), fmt.Sprint("i", *bound)
	key := m.either(m.word(x+".k", x+".k", x+".k", i), r+".k", "null")
	return `<for each="` + x + `" at="` + i + `" :in="` + r + "." + m.either(m.word("l", "m"), "b") + `" :key="` + key + `">` + m.templateElement(deep, bound, append([]string{x}, names...)) + `</for>`
}

func (m *maker) templateElement(deep int, bound *int, names []string) string {
	fields := ""
	for _, name := range []string{"a", "b"} {
		if m.chance(2) {
			fields += ` :` + name + `="` + m.word(names...) + "." + m.either(m.word("v", "w", "b"), "m") + `"`
		}
	}
	return `<q` + fields + m.word("", ` c="y"`) + `>` + m.nodes(deep, bound, names...) + `</q>`
}
