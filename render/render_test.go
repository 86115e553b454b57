package render

import (
	"fmt"
	"slices"
	"strings"
	"testing"

	"stencil/api"
	"stencil/check"
	"stencil/core"
	"stencil/data"
	"stencil/forest"
	"stencil/syntax"
)

// Expressions.

func v(place int) api.Expr { return api.Expr{Op: api.EVar, Int: place} }

func num(n int) api.Expr { return api.Expr{Op: api.EInt, Int: n} }

func str(s string) api.Expr { return api.Expr{Op: api.EStr, Str: s} }

func op(number int, kids ...api.Expr) api.Expr { return api.Expr{Op: number, Kids: kids} }

func part(e api.Expr, name string) api.Expr {
	return api.Expr{Op: api.EField, Str: name, Kids: []api.Expr{e}}
}

// of is a field of the state.
func of(name string) api.Expr { return part(v(0), name) }

func call(number int, e api.Expr) api.Expr {
	return api.Expr{Op: api.ECall, Int: number, Kids: []api.Expr{e}}
}

func index(e, i api.Expr) api.Expr { return op(api.EIndex, e, i) }

// Values.

var null = api.Value{Kind: api.KNull}

func truth(b bool) api.Value { return api.Value{Kind: api.KBool, Bool: b} }

func whole(n int) api.Value { return api.Value{Kind: api.KInt, Int: n} }

func txt(s string) api.Value { return api.Value{Kind: api.KStr, Str: s} }

func row(vs ...api.Value) api.Value { return api.Value{Kind: api.KList, List: vs} }

// rec is a record of the names, cut at each comma; "-" is a record without a name, for one name may be empty.
func rec(names string, vs ...api.Value) api.Value {
	v := api.Value{Kind: api.KRec, List: vs}
	if names != "-" {
		v.Names = strings.Split(names, ",")
	}
	return v
}

// many is a list of the numbers from 0 on.
func many(n int) api.Value {
	v := row()
	for i := range n {
		v.List = append(v.List, whole(i))
	}
	return v
}

// Core nodes.

func plain(s string) api.Part { return api.Part{Plain: s} }

func bound(e api.Expr) api.Part { return api.Part{Bound: true, Expr: e} }

func parts(ps ...api.Part) api.Core { return api.Core{Kind: api.CText, Parts: ps} }

func text(s string) api.Core { return parts(plain(s)) }

func hole(e api.Expr) api.Core { return parts(bound(e)) }

func elem(tag string, kids ...api.Core) api.Core {
	return api.Core{Kind: api.CElem, Tag: tag, Kids: kids}
}

func plainField(name, s string) api.Field { return api.Field{Name: name, Plain: s} }

func boundField(name string, e api.Expr) api.Field {
	return api.Field{Name: name, Bound: true, Expr: e}
}

func fields(c api.Core, fs ...api.Field) api.Core {
	c.Fields = fs
	return c
}

func when(test api.Expr, kids ...api.Core) api.Core {
	return api.Core{Kind: api.CIf, Exprs: []api.Expr{test}, Kids: kids}
}

func otherwise(c api.Core, els ...api.Core) api.Core {
	c.Else = els
	return c
}

func loop(list, key api.Expr, kid api.Core) api.Core {
	return api.Core{Kind: api.CFor, Exprs: []api.Expr{list, key}, Kids: []api.Core{kid}}
}

func with(es []api.Expr, kids ...api.Core) api.Core {
	return api.Core{Kind: api.CWith, Exprs: es, Kids: kids}
}

func exprs(es ...api.Expr) []api.Expr { return es }

func list(cs ...api.Core) []api.Core { return cs }

// nested is a core in so many elements.
func nested(n int, c api.Core) api.Core {
	for range n {
		c = elem("p", c)
	}
	return c
}

// What is read, and what is shown.

// cut is a text that may be long, for a message.
func cut(s string) string {
	if len(s) > 400 {
		return s[:250] + " .. " + s[len(s)-100:]
	}
	return s
}

func datum(t *testing.T, s string) api.Value {
	t.Helper()
	v, at, code := data.Parse([]byte(s))
	if code != api.OK {
		t.Fatalf("%s: %d at %d", cut(s), code, at)
	}
	return v
}

func template(t *testing.T, s string) []api.Core {
	t.Helper()
	ns, at, code := syntax.Parse(s)
	if code != api.OK {
		t.Fatalf("%s: %d at %d", cut(s), code, at)
	}
	cs, at, code := check.Check(ns)
	if code != api.OK {
		t.Fatalf("%s: %d at %d", cut(s), code, at)
	}
	return cs
}

func shown(v api.Value) string {
	if s, code := data.Print(v); code == api.OK {
		return cut(string(s))
	}
	return cut(fmt.Sprintf("%+v", v))
}

func shownCore(cs []api.Core) string { return cut(fmt.Sprintf("%+v", cs)) }

// told is a forest as HTML, with a | between two texts side by side, so that these are told from one.
func told(fs []api.Tree) string {
	s := ""
	for i, tree := range fs {
		if tree.Tag == "" {
			if i > 0 && fs[i-1].Tag == "" {
				s += "|"
			}
			s += tree.Text
			continue
		}
		s += "<" + tree.Tag
		for _, a := range tree.Attrs {
			s += fmt.Sprintf(" %s=%q", a.Name, a.Value)
		}
		s += ">" + told(tree.Kids) + "</" + tree.Tag + ">"
	}
	return s
}

// What is expected.

// alike is whether all fields are the same, also those that a kind does not use.
func alike(a, b api.Value) bool {
	return a.Kind == b.Kind && a.Bool == b.Bool && a.Int == b.Int && a.Str == b.Str && slices.Equal(a.Names, b.Names) && slices.EqualFunc(a.List, b.List, alike)
}

func expectEval(t *testing.T, e api.Expr, stack []api.Value, want answer) {
	t.Helper()
	v, code := Eval(e, stack)
	if code != want.code || !alike(v, want.v) {
		t.Errorf("%s: %s, %d, want %s, %d", cut(fmt.Sprint(e)), shown(v), code, shown(want.v), want.code)
	}
}

// expectEvalAsked holds Eval against the second way, and answers what that told.
func expectEvalAsked(t *testing.T, e api.Expr, stack []api.Value) answer {
	t.Helper()
	want := askedEval(e, stack)
	expectEval(t, e, stack, want)
	return want
}

// expectAsked holds Render against the second way, and answers the code that it told; what comes out may be.
func expectAsked(t *testing.T, cs []api.Core, v api.Value) api.Errno {
	t.Helper()
	want, code := askedRender(cs, v)
	got, answered := Render(cs, v)
	if answered != code || !forest.Same(got, want) {
		t.Errorf("%s of %s: %s, %d, want %s, %d", shownCore(cs), shown(v), cut(told(got)), answered, cut(told(want)), code)
	}
	if fault := forest.Check(got); fault != api.OK {
		t.Errorf("%s of %s: a forest that may not be: %d", shownCore(cs), shown(v), fault)
	}
	return code
}

// expect holds Render against a forest as told writes it, and against the second way.
func expect(t *testing.T, cs []api.Core, v api.Value, want string) {
	t.Helper()
	fs, code := Render(cs, v)
	if got := told(fs); got != want || code != api.OK {
		t.Errorf("%s of %s: %s, %d, want %s", shownCore(cs), shown(v), cut(got), code, cut(want))
	}
	expectAsked(t, cs, v)
}

// expectFault holds Render against an error, and against the second way.
func expectFault(t *testing.T, cs []api.Core, v api.Value, want api.Errno) {
	t.Helper()
	fs, code := Render(cs, v)
	if len(fs) != 0 || code != want {
		t.Errorf("%s of %s: %s, %d, want %d", shownCore(cs), shown(v), cut(told(fs)), code, want)
	}
	expectAsked(t, cs, v)
}

// TestP16_2Rows: the document's table.
func TestP16_2Rows(t *testing.T) {
	one := template(t, `<p :a="x" :b="y">{{ x }}</p>`)
	expect(t, one, datum(t, `{"x": 1, "y": false}`), `<p a="1">1</p>`)
	expectFault(t, one, datum(t, `{"x": 1}`), api.ErrEvalPath)
	expectFault(t, one, datum(t, `{"x": [], "y": 1}`), api.ErrEvalType)
	expectFault(t, one, datum(t, `7`), api.ErrEvalType)
	each := template(t, `<for each="x" at="i" :in="l" :key="x"><b>{{ i }}</b></for>`)
	expect(t, each, datum(t, `{"l": [5, "a"]}`), `<b>0</b><b>1</b>`)
	expectFault(t, each, datum(t, `{"l": [1, 1]}`), api.ErrRenderKey)
	expectFault(t, each, datum(t, `{"l": [null]}`), api.ErrEvalType)
}

// kinds are values of each kind, the edges of each among them.
func kinds() []api.Value {
	return []api.Value{
		null, truth(false), truth(true), whole(0), whole(-7), whole(-1 << 63), whole(1<<63 - 1), txt(""), txt("a"), txt("<\"&"), txt("true"), txt("é€😀\x00"), txt(strings.Repeat("é", api.MaxStr/2)),
		row(), row(null), row(whole(1), whole(2)), rec("-"), rec("a", whole(1)),
	}
}

// written is the text of a value, for those that have one.
func written(v api.Value) (string, bool) {
	switch v.Kind {
	case api.KNull:
		return "", true
	case api.KBool:
		return fmt.Sprint(v.Bool), true
	case api.KInt:
		return fmt.Sprint(v.Int), true
	case api.KStr:
		return v.Str, true
	}
	return "", false
}

// TestP16_2Texts: parts plain, bound and both, a bound one of each kind of value.
func TestP16_2Texts(t *testing.T) {
	expect(t, list(text("a")), null, "a")
	expect(t, list(text("a"), text("b")), null, "a|b")
	expect(t, list(parts(plain("a"), bound(v(0)), plain("b"), bound(v(0)), bound(num(7)))), whole(5), "a5b57")
	expect(t, list(parts(bound(v(0)), bound(v(0)), plain("<&>\""))), txt("<"), "<<<&>\"")
	for _, one := range kinds() {
		s, ok := written(one)
		if !ok {
			for _, c := range list(hole(v(0)), parts(plain("a"), bound(v(0))), parts(bound(num(1)), bound(v(0)), plain("b"))) {
				expectFault(t, list(c), one, api.ErrEvalType)
			}
			continue
		}
		expect(t, list(hole(v(0))), one, s)
		if len(s) < 1000 {
			expect(t, list(parts(plain("a"), bound(v(0)), plain("b"))), one, "a"+s+"b")
			expect(t, list(parts(bound(v(0)), plain("é"), bound(v(0)), bound(v(0)))), one, s+"é"+s+s)
		}
	}
	// A text without a byte is a node too.
	for _, cs := range [][]api.Core{list(hole(v(0)), hole(str("")), text("x")), list(elem("p", hole(v(0))))} {
		if fs, code := Render(cs, null); code != api.OK || forest.Count(fs) != core.Count(cs) {
			t.Errorf("%v, %d", fs, code)
		}
	}
}

// TestP16_2Fields: fields plain and bound, a bound one of each kind of value.
func TestP16_2Fields(t *testing.T) {
	expect(t, list(elem("p")), null, "<p></p>")
	expect(t, list(fields(elem("p"), plainField("a", ""), plainField("b", "<\x00"))), null, `<p a="" b="<\x00"></p>`)
	for _, one := range kinds() {
		c := fields(elem("p", text("x")), boundField("a", v(0)))
		both := fields(elem("p"), plainField("a", "1"), boundField("b", v(0)), plainField("c", "true"), boundField("d", v(0)), boundField("e", num(2)))
		s, ok := written(one)
		switch {
		case !ok:
			expectFault(t, list(c), one, api.ErrEvalType)
			expectFault(t, list(both), one, api.ErrEvalType)
			continue
		case one.Kind == api.KNull, one.Kind == api.KBool && !one.Bool:
			expect(t, list(c), one, "<p>x</p>")
			expect(t, list(both), one, `<p a="1" c="true" e="2"></p>`)
			continue
		case one.Kind == api.KBool:
			s = ""
		}
		expect(t, list(c), one, fmt.Sprintf("<p a=%q>x</p>", s))
		expect(t, list(both), one, fmt.Sprintf("<p a=%q b=%q c=%q d=%q e=%q></p>", "1", s, "true", s, "2"))
	}
}

// TestP16_2Ifs: both ways, with and without an Else, and a test of each kind of value.
func TestP16_2Ifs(t *testing.T) {
	for _, one := range kinds() {
		cases := map[string][2]string{"neither": {"", ""}, "kids": {"a<b></b>", ""}, "else": {"", "c"}, "both": {"a<b></b>", "c"}}
		for name, want := range cases {
			c := when(v(0))
			if name == "kids" || name == "both" {
				c.Kids = list(text("a"), elem("b"))
			}
			if name == "else" || name == "both" {
				c.Else = list(text("c"))
			}
			if one.Kind != api.KBool {
				expectFault(t, list(c), one, api.ErrEvalType)
				expectFault(t, list(elem("p", text("x"), c)), one, api.ErrEvalType)
				continue
			}
			s := want[0]
			if !one.Bool {
				s = want[1]
			}
			expect(t, list(c), one, s)
			expect(t, list(elem("p", c, elem("q"))), one, "<p>"+s+"<q></q></p>")
		}
	}
	// Of what does not stand nothing is asked.
	bad := list(hole(index(v(0), v(0))), when(num(1)), loop(num(1), num(1), elem("p")), with(exprs(op(api.EDiv, num(1), num(0)))), fields(elem("p"), boundField("a", op(api.ENeg, op(api.ENull)))))
	expect(t, list(otherwise(when(v(0), text("x")), bad...)), truth(true), "x")
	expect(t, list(otherwise(when(v(0), bad...), text("x"))), truth(false), "x")
}

// TestP16_2Loops: lists of no, one and many elements, with keys of each kind.
func TestP16_2Loops(t *testing.T) {
	each := loop(v(0), v(1), fields(elem("b", hole(v(1))), boundField("i", v(2))))
	expect(t, list(each), row(), "")
	expect(t, list(elem("p", each)), row(), "<p></p>")
	expect(t, list(each), row(whole(5)), `<b i="0">5</b>`)
	expect(t, list(each), row(whole(5), txt("5"), whole(-5), txt(""), txt("a"), whole(0), txt("0")), `<b i="0">5</b><b i="1">5</b><b i="2">-5</b><b i="3"></b><b i="4">a</b><b i="5">0</b><b i="6">0</b>`)
	expect(t, list(text("x"), each, text("y")), row(whole(1)), `x<b i="0">1</b>y`)
	for _, one := range kinds() {
		if one.Kind != api.KList {
			expectFault(t, list(each), one, api.ErrEvalType)
		}
		keyed := list(loop(v(0), v(1), elem("b")))
		switch one.Kind {
		case api.KInt, api.KStr:
			expect(t, keyed, row(one), "<b></b>")
			expectFault(t, keyed, row(one, one), api.ErrRenderKey)
			expectFault(t, keyed, row(one, whole(99), one), api.ErrRenderKey)
			expectFault(t, keyed, row(whole(99), one, txt("other"), one), api.ErrRenderKey)
		default:
			expectFault(t, keyed, row(one), api.ErrEvalType)
			expectFault(t, keyed, row(whole(1), one), api.ErrEvalType)
			expectFault(t, keyed, row(one, whole(1), whole(1)), api.ErrEvalType)
			expectFault(t, keyed, row(whole(1), whole(1), one), api.ErrRenderKey)
		}
	}
	// What the key does not name may be the same.
	expect(t, list(loop(v(0), v(2), elem("b", hole(v(1))))), row(whole(1), whole(1), null), "<b>1</b><b>1</b><b></b>")
	expectFault(t, list(loop(v(0), num(1), elem("b"))), row(whole(1), whole(2)), api.ErrRenderKey)
	expect(t, list(loop(v(0), num(1), elem("b"))), row(whole(1)), "<b></b>")
	expect(t, list(loop(v(0), op(api.ECat, v(1), v(2)), elem("b"))), row(null, null, txt("2")), "<b></b><b></b><b></b>")
	// The key of element 0 is "10", and so is that of element 10, but for an "x".
	far := row(slices.Concat([]api.Value{txt("1")}, slices.Repeat([]api.Value{txt("x")}, 10))...)
	expect(t, list(loop(v(0), op(api.ECat, v(1), v(2)), elem("b"))), far, strings.Repeat("<b></b>", 11))
	far.List[10] = null
	expectFault(t, list(loop(v(0), op(api.ECat, v(1), v(2)), elem("b"))), far, api.ErrRenderKey)
	// Two loops, and two standings of one, have keys of their own.
	expect(t, list(each, each), row(whole(1)), `<b i="0">1</b><b i="0">1</b>`)
	twice := list(loop(v(0), v(2), elem("p", loop(v(1), v(3), elem("b", hole(v(4)))))))
	expect(t, twice, row(row(whole(1), whole(2)), row(), row(whole(2), whole(1))), "<p><b>0</b><b>1</b></p><p></p><p><b>0</b><b>1</b></p>")
}

// TestP16_2Withs: of no, one and many expressions, each with the stack as it was.
func TestP16_2Withs(t *testing.T) {
	expect(t, list(with(nil)), null, "")
	expect(t, list(with(nil, text("x"), elem("p"))), null, "x<p></p>")
	expect(t, list(with(exprs(num(1), num(2)))), null, "")
	expect(t, list(with(exprs(num(1)), hole(v(1)), hole(v(0)))), txt("s"), "1|s")
	expect(t, list(with(exprs(v(0), op(api.EAdd, v(0), num(1)), str("x")), parts(bound(v(3)), bound(v(2)), bound(v(1)), bound(v(0))))), whole(4), "x544")
	expect(t, list(with(exprs(num(1)), with(exprs(v(1), num(2)), with(nil, hole(op(api.ECat, v(2), v(3)))), hole(v(3))), hole(v(1)))), null, "12|2|1")
	// A value may be of any kind, and what was on the stack is there again behind it.
	for _, one := range kinds() {
		expect(t, list(with(exprs(v(0), of("y")), hole(of("y"))), hole(of("y"))), rec("x,y", one, whole(3)), "3|3")
		s, ok := written(one)
		if ok {
			expect(t, list(with(exprs(of("x")), hole(v(1)))), rec("x", one), s)
		} else {
			expectFault(t, list(with(exprs(of("x")), hole(v(1)))), rec("x", one), api.ErrEvalType)
		}
	}
	expectFault(t, list(with(exprs(num(1), of("x"), op(api.EDiv, num(1), num(0))))), rec("-"), api.ErrEvalPath)
	expectFault(t, list(with(exprs(op(api.EDiv, num(1), num(0)), of("x")))), rec("-"), api.ErrEvalZero)
}

// samples are nodes of each Kind, which may stand anywhere; they ask the state for l, a list, and b, a bool.
func samples() []api.Core {
	return []api.Core{
		text("a"), hole(of("n")), parts(plain("a"), bound(of("n")), plain("b"), bound(num(1)), bound(of("s"))), parts(bound(of("s")), plain("a")),
		elem("p"), fields(elem("p"), plainField("a", ""), boundField("b", of("b")), boundField("c", of("n")), plainField("d", "x")),
		when(of("b")), otherwise(when(of("b")), text("x")), otherwise(when(of("b"), elem("b")), elem("c")),
		loop(of("l"), v(1), elem("li")), loop(of("l"), op(api.ECat, v(1), v(2)), elem("li", hole(v(2)))),
		with(nil), with(nil, text("x")), with(exprs(of("l"), num(1)), hole(v(2))),
	}
}

func states() []api.Value {
	return []api.Value{
		rec("l,b,n,s", row(whole(3), txt("x")), truth(true), whole(-3), txt("s")), rec("s,n,b,l", txt(""), null, truth(false), row()), rec("l,b,n,s", many(5), truth(true), truth(true), txt("é")),
		rec("l,b,n", row(whole(3), whole(3)), truth(true), whole(1)), rec("l,b,n,s", row(null), truth(false), row(), txt("s")), rec("l,b,n,s", whole(1), null, row(), null), null, row(),
	}
}

// inside is one node in another, in each place where it may stand there; a for's element holds it.
func inside(outer, inner api.Core) []api.Core {
	switch outer.Kind {
	case api.CText:
		return nil
	case api.CFor:
		held := outer.Kids[0]
		held.Kids = slices.Concat(held.Kids, list(inner, inner))
		outer.Kids = list(held)
		return list(outer)
	}
	in, behind := outer, outer
	in.Kids = list(inner)
	behind.Kids = slices.Concat(outer.Kids, list(inner, text("z")))
	out := list(in, behind)
	if outer.Kind == api.CIf {
		els := outer
		els.Else = slices.Concat(list(inner), outer.Else)
		out = append(out, els)
	}
	return out
}

// moved is a core where so many values more lie on the stack: what it puts there itself lies so much higher.
func moved(c api.Core, more int) api.Core {
	shift := func(e api.Expr) api.Expr { return movedExpr(e, more) }
	c.Parts, c.Fields, c.Exprs = slices.Clone(c.Parts), slices.Clone(c.Fields), slices.Clone(c.Exprs)
	for i := range c.Parts {
		c.Parts[i].Expr = shift(c.Parts[i].Expr)
	}
	for i := range c.Fields {
		c.Fields[i].Expr = shift(c.Fields[i].Expr)
	}
	for i := range c.Exprs {
		c.Exprs[i] = shift(c.Exprs[i])
	}
	c.Kids, c.Else = slices.Clone(c.Kids), slices.Clone(c.Else)
	for i := range c.Kids {
		c.Kids[i] = moved(c.Kids[i], more)
	}
	for i := range c.Else {
		c.Else[i] = moved(c.Else[i], more)
	}
	return c
}

func movedExpr(e api.Expr, more int) api.Expr {
	if e.Op == api.EVar && e.Int > 0 {
		e.Int += more
	}
	e.Kids = slices.Clone(e.Kids)
	for i := range e.Kids {
		e.Kids[i] = movedExpr(e.Kids[i], more)
	}
	return e
}

// higher is how many values a node puts on the stack.
func higher(c api.Core) int {
	switch c.Kind {
	case api.CFor:
		return 2
	case api.CWith:
		return len(c.Exprs)
	}
	return 0
}

// TestP16_2Kinds: each Kind alone, beside each other and inside each other.
func TestP16_2Kinds(t *testing.T) {
	met := map[api.Errno]int{}
	try := func(cs ...api.Core) {
		for _, state := range states() {
			met[expectAsked(t, cs, state)]++
		}
	}
	try()
	for _, a := range samples() {
		try(a)
		for _, b := range samples() {
			try(a, b)
			for _, c := range inside(a, moved(b, higher(a))) {
				try(c)
				try(text("x"), c, text("x"))
				for _, d := range samples() {
					for _, e := range inside(d, moved(c, higher(d))) {
						try(e)
					}
				}
			}
		}
	}
	if met[api.OK] < 5000 || met[api.ErrEvalType] < 1000 || met[api.ErrEvalPath] < 500 || met[api.ErrRenderKey] < 500 || len(met) != 4 {
		t.Errorf("%v", met)
	}
}

// TestP16_2Templates: what check answers of a template, with states that fit it and states that do not.
func TestP16_2Templates(t *testing.T) {
	for _, c := range []struct{ s, state, want string }{
		{``, `null`, ``}, {`x`, `7`, `x`}, {` <p> </p> `, `[]`, ` <p> </p> `}, {`<p b="2" a="1"/>`, `{}`, `<p a="1" b="2"></p>`},
		{`a {{ n }} b{{ s }}`, `{"s": "<", "n": -3}`, `a -3 b<`},
		{`<if :test="a">x</if> <else>y</else>`, `{"a": true}`, `x`}, {`<if :test="a">x</if> <else>y</else>`, `{"a": false}`, `y`}, {`<if :test="a > 1">{{ b }}</if>`, `{"a": 1}`, ``},
		{`<for each="r" at="i" :in="rows" :key="r.id"><tr :class="i % 2 == 0 ? 'even' : null"><for each="c" :in="r.cs" :key="c"><td>{{ i }}{{ r.id }}{{ c }}</td></for></tr></for>`, `{"rows": [{"id": "x", "cs": [1, 2]}, {"id": 7, "cs": []}, {"id": "7", "cs": ["z"]}]}`, `<tr class="even"><td>0x1</td><td>0x2</td></tr><tr></tr><tr class="even"><td>27z</td></tr>`},
		{`<def name="d" props="p"><i>{{ p }}<slot :q="p + 1"/></i></def><d :p="a"><fill let="q">{{ q }}{{ a }}</fill></d>`, `{"a": 1}`, `<i>1|21</i>`},
		{`<def name="d"><b><slot>none</slot></b></def><d/><d>{{ x }}</d>`, `{"x": "y"}`, `<b>none</b><b>y</b>`},
		{`<def name="d" props="t"><slot name="h"/><u><slot :n="len(t)">{{ t }}</slot></u></def><for each="x" :in="l" :key="x"><p><d :t="x"><fill name="h">{{ x }}!</fill><fill let="n">{{ n }}</fill></d></p></for>`, `{"l": ["a", "bcd"]}`, `<p>a!<u>1</u></p><p>bcd!<u>3</u></p>`},
	} {
		cs := template(t, c.s)
		expect(t, cs, datum(t, c.state), c.want)
		for _, s := range []string{`null`, `{}`, `{"a": 1, "l": [1, 1], "rows": 7}`, `{"rows": [{"id": 1, "cs": []}, {"id": 1}]}`, `{"a": 9223372036854775807, "l": ["x", 2], "x": {}}`} {
			expectAsked(t, cs, datum(t, s))
		}
	}
}
