package check

import (
	"fmt"
	"slices"
	"strconv"
	"strings"
	"testing"

	"stencil/api"
	"stencil/core"
	"stencil/expr"
	"stencil/syntax"
)

// read is the nodes of a template that says some.
func read(s string) []api.Node {
	ns, at, code := syntax.Parse(s)
	if code != api.OK {
		panic(fmt.Sprintf("%s: %d at %d", cut(s), code, at))
	}
	return ns
}

func cut(s string) string {
	if len(s) > 300 {
		return s[:150] + " .. " + s[len(s)-150:]
	}
	return s
}

// printed is nodes as text, for a test's words.
func printed(ns []api.Node) string {
	s, code := syntax.Print(ns)
	if code != api.OK {
		s = fmt.Sprintf("%+v", ns)
	}
	return cut(s)
}

// expectAsked asks that Check answers what the document says, which it hands on.
func expectAsked(t *testing.T, ns []api.Node) answer {
	t.Helper()
	want := askedCheck(ns)
	got, at, code := Check(ns)
	if code != want.code || at != want.at || !sameCores(got, want.cores) {
		t.Fatalf("%s: %s, %d at %d, want %s, %d at %d", printed(ns), cut(show(got)), code, at, cut(show(want.cores)), want.code, want.at)
	}
	if words := against(got); len(words) > 0 {
		t.Fatalf("P14.4: %s: %s: %v", printed(ns), cut(show(got)), words)
	}
	if code := core.Check(got); code != api.OK {
		t.Fatalf("P14.4: %s: %s: %d", printed(ns), cut(show(got)), code)
	}
	return want
}

// expectFault asks for an error at the mark § of the template, which is no part of it.
func expectFault(t *testing.T, code api.Errno, marked string) {
	t.Helper()
	ahead, behind, ok := strings.Cut(marked, "§")
	if !ok {
		t.Fatalf("%s: no mark", marked)
	}
	ns := read(ahead + behind)
	if got, at, e := Check(ns); len(got) > 0 || at != len(ahead) || e != code {
		t.Errorf("%s: %s, %d at %d, want %d at %d", cut(marked), cut(show(got)), e, at, code, len(ahead))
	}
	expectAsked(t, ns)
}

// expectCore asks for a core as show writes it.
func expectCore(t *testing.T, s, want string) {
	t.Helper()
	ns := read(s)
	got, at, code := Check(ns)
	if show(got) != want || at != 0 || code != api.OK {
		t.Errorf("%s: %s, %d at %d, want %s", cut(s), cut(show(got)), code, at, cut(want))
	}
	expectAsked(t, ns)
}

// show writes a core: texts as 'plain' and {expression}, elements as tag[fields](kids), the others as their names, their expressions, and (kids); places of the stack as $0, $1.
func show(cs []api.Core) string {
	var out []string
	for _, c := range cs {
		s := []string{"?", "", c.Tag, "if", "for", "with"}[c.Kind]
		for _, p := range c.Parts {
			if p.Bound {
				s += "{" + showExpr(p.Expr) + "}"
			} else {
				s += "'" + p.Plain + "'"
			}
		}
		for _, f := range c.Fields {
			if f.Bound {
				s += "[:" + f.Name + " " + showExpr(f.Expr) + "]"
			} else {
				s += "[" + f.Name + " " + f.Plain + "]"
			}
		}
		for _, e := range c.Exprs {
			s += "<" + showExpr(e) + ">"
		}
		if c.Kind != api.CText {
			s += "(" + show(c.Kids) + ")"
		}
		if len(c.Else) > 0 {
			s += "else(" + show(c.Else) + ")"
		}
		out = append(out, s)
	}
	return strings.Join(out, " ")
}

func showExpr(e api.Expr) string {
	var named func(e api.Expr) api.Expr
	named = func(e api.Expr) api.Expr {
		e.Kids = slices.Clone(e.Kids)
		for i := range e.Kids {
			e.Kids[i] = named(e.Kids[i])
		}
		if e.Op == api.EVar {
			e.Str, e.Int = "place"+strconv.Itoa(e.Int)+e.Str, 0
		}
		return e
	}
	s, code := expr.Print(named(e))
	if code != api.OK {
		return fmt.Sprintf("%+v", e)
	}
	return strings.ReplaceAll(s, "place", "$")
}

func TestP14_3Rows(t *testing.T) {
	for _, row := range [][2]string{
		{`<p>{{ a }}</p>`, "p({$0.a})"},
		{`<for each="x" :in="xs" :key="x"><li>{{ x }}</li></for>`, "for<$0.xs><$1>(li({$1}))"},
		{`<def name="x-a" props="t"><b>{{ t }}<slot :u="t"/></b></def><x-a t="1"><fill let="u">{{ u }}{{ t }}</fill></x-a>`, "with<'1'>(b({$1} with<$1>({$2}{$0.t})))"},
		{`<def name="x-a"/>`, ""},
	} {
		expectCore(t, row[0], row[1])
	}
}

func TestP14_1Rows(t *testing.T) {
	expectFault(t, api.ErrCheckElse, `§<else/>`)
	expectFault(t, api.ErrCheckSlot, `§<slot/>`)
	expectFault(t, api.ErrCheckKey, `§<for each="x" :in="a"><p/></for>`)
	expectFault(t, api.ErrCheckForm, `<if §test="a"/>`)
	expectFault(t, api.ErrCheckTwice, `<p a="" §:a="1"/>`)
	expectFault(t, api.ErrCheckUse, `<def name="x-a">§<x-a/></def>`)
}

// TestP14_4OwnCore: a template without directives is its core, its fields by name.
func TestP14_4OwnCore(t *testing.T) {
	for _, row := range [][2]string{
		{"", ""}, {" ", "' '"}, {"a", "'a'"}, {"<p/>", "p()"}, {" <p> </p> ", "' ' p(' ') ' '"},
		{`<p c="3" a="1" b="2"/>`, "p[a 1][b 2][c 3]()"},
		{`<p a-b="" a="" ab="" a1=""/>`, "p[a ][a-b ][a1 ][ab ]()"},
		{`<p><q>x</q>y<q/></p>`, "p(q('x') 'y' q())"},
		{`<iff/><elses/><form/><define/><slots/><filler/><for-x/>`, "iff() elses() form() define() slots() filler() for-x()"},
		{`<p name="" props="" test="" each="" at="" in="" key="" let=""/>`, "p[at ][each ][in ][key ][let ][name ][props ][test ]()"},
		{`<p a="&lt;{{ x }}"/>{ x }`, "p[a <{{ x }}]() '{ x }'"},
	} {
		expectCore(t, row[0], row[1])
	}
}

// TestP14_3Names: what an expression asks is a field of the state, or a place; all else of it stays.
func TestP14_3Names(t *testing.T) {
	for _, row := range [][2]string{
		{`{{ a }}`, "{$0.a}"}, {`{{ a.b.c }}`, "{$0.a.b.c}"}, {`{{ a.a }}`, "{$0.a.a}"}, {`{{ a[b] }}`, "{$0.a[$0.b]}"},
		{`{{ 1 }}{{ 'a' }}{{ null }}{{ true }}{{ false }}`, "{1}{'a'}{null}{true}{false}"},
		{`{{ len(a) + len }}{{ i8 }}`, "{len($0.a) + $0.len}{$0.i8}"},
		{`{{ -a ? !b : (c ~ 'x\n') }}`, "{-$0.a ? !$0.b : $0.c ~ 'x\\n'}"},
		{`x{{ a }} y{{ b }}`, "'x'{$0.a}' y'{$0.b}"},
		{`<p :b="a" :a="b" c="{{ d }}"/>`, "p[:a $0.b][:b $0.a][c {{ d }}]()"},
		{`<p :null="a" :if="each"/>`, "p[:if $0.each][:null $0.a]()"},
		{`<for each="a" :in="a" :key="a.a"><p :a="a.a">{{ a }}{{ b }}</p></for>{{ a }}`, "for<$0.a><$1.a>(p[:a $1.a]({$1}{$0.b})) {$0.a}"},
		{`<for each="a" at="b" :in="a[b]" :key="a ~ b"><p>{{ b[a] }}</p></for>`, "for<$0.a[$0.b]><$1 ~ $2>(p({$2[$1]}))"},
		{`<for at="b" :key="a ~ b" :in="a[b]" each="a"><p>{{ b[a] }}</p></for>`, "for<$0.a[$0.b]><$1 ~ $2>(p({$2[$1]}))"},
		{`<for each="a" at="b" :in="c" :key="1"><p><for each="b" at="a" :in="a[b]" :key="a[b]"><q>{{ a }}{{ b }}</q></for>{{ a }}{{ b }}</p></for>`, "for<$0.c><1>(p(for<$1[$2]><$4[$3]>(q({$4}{$3})) {$1}{$2}))"},
		{`<for each="a" at="b" :in="c" :key="1"><p><for each="b" :in="a" :key="b"><q>{{ a }}{{ b }}</q></for></p></for>`, "for<$0.c><1>(p(for<$1><$3>(q({$1}{$3}))))"},
		{`<for each="x" :in="a" :key="x"><p/></for><for each="y" :in="x" :key="y"><p/></for>`, "for<$0.a><$1>(p()) for<$0.x><$1>(p())"},
	} {
		expectCore(t, row[0], row[1])
	}
}

// TestP14_3Blanks: blank texts are left out in four places, and stay in all others.
func TestP14_3Blanks(t *testing.T) {
	for _, row := range [][2]string{
		{"<if :test=\"a\">x</if> \t\r\n<else>y</else>", "if<$0.a>('x')else('y')"},
		{`<if :test="a"> x </if><else> y </else> `, "if<$0.a>(' x ')else(' y ') ' '"},
		{` <if :test="a"> </if> <else> </else> `, "' ' if<$0.a>(' ')else(' ') ' '"},
		{`<if :test="a"/> <if :test="b"/> <else/> <if :test="c"/> `, "if<$0.a>() ' ' if<$0.b>() ' ' if<$0.c>() ' '"},
		{`<if :test="a"/> <p/> <if :test="b"/><else>x</else>y`, "if<$0.a>() ' ' p() ' ' if<$0.b>()else('x') 'y'"},
		{`<if :test="a"><if :test="b">1</if> <else>2</else> </if> <else> <if :test="c"/> <else>3</else></else>`, "if<$0.a>(if<$0.b>('1')else('2') ' ')else(' ' if<$0.c>()else('3'))"},
		{`<for each="x" :in="a" :key="x"> <p> </p> </for> `, "for<$0.a><$1>(p(' ')) ' '"},
		{" \n<def name=\"a\"> <p/> </def>\t<def name=\"b\"> </def> <p/> <a> </a> <b/>", "' ' p() ' ' with(' ' p() ' ') ' ' with(' ')"},
		{` <p/>`, "' ' p()"}, {`<def name="a"/> `, "' '"}, {" \n<def name=\"a\"/> x", "' x'"},
		{`<def name="a"><slot/></def><a> </a>`, "with(with())"},
		{`<def name="a"><slot> o </slot></def><a> </a><a/>`, "with(with(' o ')) with(with(' o '))"},
		{`<def name="a"><slot/></def><a> <p/> </a>`, "with(with(' ' p() ' '))"},
		{`<def name="a"><slot/></def><a> {{ x }} </a>`, "with(with(' '{$0.x}' '))"},
		{`<def name="a"><slot/><slot name="n">o</slot></def><a> <fill> x </fill> <fill name="n"> </fill> </a>`, "with(with(' x ') with(' '))"},
		{`<def name="a"><slot>o</slot></def><a> <fill/> </a>`, "with(with())"},
		{"\u00a0<p/>", "'\u00a0' p()"},
	} {
		expectCore(t, row[0], row[1])
	}
	// What is no blank text is in their way.
	expectFault(t, api.ErrCheckElse, "<if :test=\"a\"/>\u00a0§<else/>")
	expectFault(t, api.ErrCheckElse, "<if :test=\"a\"/>\v§<else/>")
	expectFault(t, api.ErrCheckElse, `<if :test="a"/> {{ ' ' }}§<else/>`)
	expectFault(t, api.ErrCheckElse, `<if :test="a"/> {{ '' }} §<else/>`)
	expectFault(t, api.ErrCheckDef, "\f§<def name=\"a\"/>")
	expectFault(t, api.ErrCheckDef, `{{ ' ' }}§<def name="a"/>`)
	expectFault(t, api.ErrCheckDef, ` x §<def name="a"/>`)
}

// TestP14_3Uses: what uses and slots stand for, and on which places.
func TestP14_3Uses(t *testing.T) {
	two := `<def name="d"><slot>own</slot><slot name="n" :p="1" :q="2">none</slot></def>`
	deep := `<def name="a" props="p"><i><slot :s="p"/></i></def><def name="b" props="p q"><a :p="q ~ p"><fill let="s">{{ p }}{{ q }}{{ s }}<slot :t="s" :u="q">{{ p }}</slot></fill></a></def>`
	for _, row := range [][2]string{
		{`<def name="a"/><a/><a/>`, "with() with()"},
		{`<def name="a" props="p"/><a p=""/>`, "with<''>()"},
		{"<def name=\"a\" props=\" p\t\nq\rr \">{{ p }}{{ q }}{{ r }}</def><a q=\"2\" r=\"3\" p=\"1\"/>", "with<'1'><'2'><'3'>({$1}{$2}{$3})"},
		{`<def name="a" props="p q"><p :p="q"/></def><a :q="p" :p="q.q"/>`, "with<$0.q.q><$0.p>(p[:p $2]())"},
		{`<def name="a" props="a"><a1 :a="a"/></def><a a="&lt;"/>`, "with<'<'>(a1[:a $1]())"},
		{`<def name="a" props="b">{{ b }}</def><def name="b" props="a"><a :b="a"/></def><b :a="a"/>`, "with<$0.a>(with<$1>({$2}))"},
		{`<def name="a" props="x">{{ x }}</def><for each="x" :in="l" :key="x"><p><a :x="x"/>{{ x }}</p></for>`, "for<$0.l><$1>(p(with<$1>({$3}) {$1}))"},
		{`<def name="a" props="l"><for each="x" at="i" :in="l" :key="i"><p :x="x">{{ l }}<slot :v="x" :w="i"/></p></for></def><a :l="x"><fill let="w">{{ w }}{{ x }}</fill></a>`, "with<$0.x>(for<$1><$3>(p[:x $2]({$1} with<$2><$3>({$5}{$0.x}))))"},
		{two + `<d/>`, "with(with('own') with<1><2>('none'))"},
		{two + `<d>a</d>`, "with(with('a') with<1><2>('none'))"},
		{two + `<d><fill name="">a</fill></d>`, "with(with('a') with<1><2>('none'))"},
		{two + `<d><fill name="n" let="q p">{{ q }}{{ p }}{{ r }}</fill></d>`, "with(with('own') with<1><2>({$2}{$1}{$0.r}))"},
		{two + `<d><fill name="n" let="q">{{ q }}{{ p }}</fill><fill>x</fill></d>`, "with(with('x') with<1><2>({$2}{$0.p}))"},
		{two + `<d><fill/><fill name="n"> </fill></d>`, "with(with() with<1><2>(' '))"},
		{two + `<d><d>x</d></d>`, "with(with(with(with('x') with<1><2>('none'))) with<1><2>('none'))"},
		{two + `<d><if :test="a">x</if><else><d/></else></d>`, "with(with(if<$0.a>('x')else(with(with('own') with<1><2>('none')))) with<1><2>('none'))"},
		{`<def name="a"><slot/><slot/><slot name="x"/></def><a>y</a>`, "with(with('y') with('y') with())"},
		{`<def name="a"><slot :u="1" :v="2"/><slot :w="3" :v="4"/></def><a><fill let="v">{{ v }}</fill></a>`, "with(with<1><2>({$2}) with<3><4>({$2}))"},
		{`<def name="a"><slot><slot name="i">x</slot></slot></def><a/><a>y</a><a><fill name="i">z</fill></a>`, "with(with(with('x'))) with(with('y')) with(with(with('z')))"},
		{`<def name="a"><slot name="n"/></def><a><fill name="n"><a><fill name="n">x</fill></a></fill></a>`, "with(with(with(with('x'))))"},
		{`<def name="a"><slot/></def><def name="b" props="k"><a>{{ k }}<slot :z="k"/></a></def><b k="7"><fill let="z">{{ z }}{{ k }}</fill></b>`, "with<'7'>(with(with({$1} with<$1>({$2}{$0.k}))))"},
		{`<def name="a" props="p"><if :test="p"><slot/></if></def><a :p="q"><a :p="r">x</a></a>`, "with<$0.q>(if<$1>(with(with<$0.r>(if<$2>(with('x'))))))"},
		{deep + `<b p="1" q="2"/>`, "with<'1'><'2'>(with<$2 ~ $1>(i(with<$3>({$1}{$2}{$4} with<$4><$2>({$1})))))"},
		{deep + `<b p="1" q="2"><fill let="u t">{{ t }}{{ u }}{{ s }}</fill></b>`, "with<'1'><'2'>(with<$2 ~ $1>(i(with<$3>({$1}{$2}{$4} with<$4><$2>({$5}{$6}{$0.s})))))"},
		{`<def name="a"><slot :name="1"/></def><a><fill let="name">{{ name }}</fill></a>`, "with(with<1>({$1}))"},
		{`<def name="a"><slot :x="1">{{ 2 }}</slot></def><a/>`, "with(with<1>({2}))"},
		{`<def name="a" props="x"><slot :x="2">{{ x }}</slot></def><a x="1"/><a x="1"><fill let="x">{{ x }}</fill></a>`, "with<'1'>(with<2>({$1})) with<'1'>(with<2>({$2}))"},
		{`<for each="x" :in="l" :key="1"><p><d :a="x"/></p></for>`, "for<$0.l><1>(p(d[:a $1]()))"},
		{`<def name="if-x"><else-x/></def><if-x/>`, "with(else-x())"},
	} {
		expectCore(t, row[0], row[1])
	}
}

func TestP14_1First(t *testing.T) {
	d := `<def name="a"/>`
	// 1: where it stands. Uses: the first field name of each def counts, wherever the def stands ahead of the body.
	expectFault(t, api.ErrCheckUse, `<def name="a"><p>§<a/></p></def>`)
	expectFault(t, api.ErrCheckUse, `<def name="a">§<b/></def><def name="b"/>`)
	expectFault(t, api.ErrCheckUse, `<def name="a">§<b c="" c="">{{ x }}<slot a=""/></b></def> <def name="c"/> <def name="b"/>`)
	expectFault(t, api.ErrCheckUse, `<def name="a">§<b/></def><def name="b" name="c"/>`)
	expectFault(t, api.ErrCheckTwice, `<def name="a"><c/></def><def name="b" §name="c"/>`)
	expectFault(t, api.ErrCheckForm, `<def name="a"><b/></def><def §:name="b" name="b"/>`)
	expectFault(t, api.ErrCheckForm, `<def name="a"><if :test="1"/></def><def §name="if"/>`)
	expectFault(t, api.ErrCheckDef, `<def name="a"/><def name="b"><a/></def>§<def name="a"/>`)
	expectFault(t, api.ErrCheckDef, `<def name="a"><b/></def><p/>§<def name="b"/>`)
	expectFault(t, api.ErrCheckUse, `<def name="a">`+`<for each="x" :in="1" :key="x">§<a/></for></def>`)
	expectFault(t, api.ErrCheckUse, defs(34, `§<d33/>`))
	// Defs.
	expectFault(t, api.ErrCheckDef, `<p/>§<def/>`)
	expectFault(t, api.ErrCheckDef, d+`x§<def a="" a=""/>`)
	expectFault(t, api.ErrCheckDef, `<p>§<def name="a"/></p>`)
	expectFault(t, api.ErrCheckDef, `<def name="a">§<def name="b"/></def>`)
	expectFault(t, api.ErrCheckDef, `<def name="a"><slot/></def><a> §<def name="b"/></a>`)
	// Elses.
	for _, marked := range []string{
		` §<else/>`, `x§<else a=""/>`, `<p/>§<else/>`, `<p>§<else/></p>`, d + `§<else/>`, `<if :test="a"/>x§<else/>`, `<if :test="a"/><else/>§<else/>`, `<if :test="a"/><else/> §<else/>`,
		`<if :test="a">§<else/></if>`, `<if :test="a"/><p>§<else/></p>`, `<if :test="a"/><else>§<else/></else>`, `<if :test="a"/><p/>§<else/>`, `<p><if :test="a"/></p>§<else/>`,
	} {
		expectFault(t, api.ErrCheckElse, marked)
	}
	// Slots and fills.
	expectFault(t, api.ErrCheckSlot, d+`<p>§<slot a=""/></p>`)
	expectFault(t, api.ErrCheckSlot, `<def name="a"><slot/></def><a>§<slot/></a>`)
	expectFault(t, api.ErrCheckSlot, `<def name="a"><slot/></def><a><fill>§<slot/></fill></a>`)
	u := `<def name="a"><slot/></def>`
	for _, marked := range []string{
		`<p>§<fill/></p>`, `§<fill a="" a=""/>`, `<def name="a">§<fill/></def>`, u + `<a><p>§<fill/></p></a>`, u + `<a><fill>§<fill/></fill></a>`, u + `<a><if :test="b">§<fill/></if></a>`, `<def name="a"><slot>§<fill/></slot></def>`, u + `<a/>§<fill/>`,
	} {
		expectFault(t, api.ErrCheckFill, marked)
	}
}

// defs are n defs, the first with that in it.
func defs(n int, in string) string {
	s := ""
	for i := range n {
		s += `<def name="d` + strconv.Itoa(i) + `">` + in + `</def>`
		in = ""
	}
	return s
}

func TestP14_1Second(t *testing.T) {
	for _, marked := range []string{
		`<p a="" §a=""/>`, `<p :a="1" b="" §a=""/>`, `<p a="" b="" c="" §b="" a=""/>`, `<if :test="a" §:test="b"/>`, `<if :test="a" §test="b"/>`, `<def name="a" §name="b"/>`, `<def name="a" props="" §:props="1"/>`,
		`<for each="x" :in="a" :key="x" §each="y"/>`, `<def name="a"><slot name="" §:name="1"/></def>`, `<def name="a"><slot :x="1" §:x="1"/></def>`, `<def name="a" props="p"/><a p="" §:p="1"/>`, `<def name="a"><slot/></def><a><fill name="" §name=""/></a>`,
	} {
		expectFault(t, api.ErrCheckTwice, marked)
	}
	for _, marked := range []string{
		// Of two fields the first one's fault is told.
		`<if §a="" a=""/>`, `<if :test="a"/><else §a="" :a="1"/>`,
		`<def §:name="a"/>`, `<def name="a" §:props="b"/>`, `<def name="a" §prop="b"/>`, `<def name="a" §test="b"/>`, `<def name="a" §:test="b"/>`, `<def §x=""/>`, `<def name="A" §x=""/>`,
		`<if §test="a"/>`, `<if §:tests="a"/>`, `<if :test="a" §name=""/>`, `<if §:else="a" :test="a"/>`, `<if :test="a"/><else §:test="a"/>`, `<if :test="a"/><else §name=""/>`,
		`<for §:each="x" :in="a" :key="x"><p/></for>`, `<for each="x" §:at="y" :in="a" :key="x"><p/></for>`, `<for each="x" §in="a" :key="x"><p/></for>`, `<for each="x" :in="a" §key="x"><p/></for>`, `<for §x=""/>`, `<for each="1" :in="a" :key="x" §:let="1"/>`,
		`<def name="a"><slot §a=""/></def>`, `<def name="a"><slot §:a-b="1"/></def>`, `<def name="a"><slot §:null="1"/></def>`, `<def name="a"><slot §:true="1"/></def>`, `<def name="a"><slot §:false="1"/></def>`, `<def name="a"><slot name="A" §let=""/></def>`,
		`<def name="a"><slot/></def><a><fill §:name="1"/></a>`, `<def name="a"><slot/></def><a><fill §:let="1"/></a>`, `<def name="a"><slot/></def><a><fill let="A" §x=""/></a>`, `<def name="a"><slot/></def><a><fill §:x="1"/></a>`,
	} {
		expectFault(t, api.ErrCheckForm, marked)
	}
	for _, marked := range []string{
		`<def name="a"/><a §x=""/>`, `<def name="a" props="p"/><a §:x="1" :x="1"/>`, `<def name="a" props="p q"/><a p="" §name="" q=""/>`, `<def name="a" props="p"/><a §q=""/>`,
	} {
		expectFault(t, api.ErrCheckUse, marked)
	}
}

func TestP14_1Third(t *testing.T) {
	for _, marked := range []string{`§<for/>`, `§<for each="A" :in="x"/>`, `<p>§<for each="x" at="x" :in="a">x</for></p>`} {
		expectFault(t, api.ErrCheckKey, marked)
	}
	for _, marked := range []string{
		`§<for :key="1"/>`, `§<for each="A" :key="1"/>`, `§<for :in="a" :key="1"/>`, `§<for at="1" :in="a" :key="1"><p/></for>`, `§<if/>`, `<p>§<if><else/></if></p>`, `§<def/>`, ` §<def props="1 1"/>`,
	} {
		expectFault(t, api.ErrCheckForm, marked)
	}
	for _, marked := range []string{
		`<def name="a" props="p"/>§<a/>`, `<def name="a" props="p q"/>§<a p=""><fill/></a>`, `<def name="a" props="p q"/>§<a :q="1">x</a>`, `<def name="a" props="p"/><def name="b">§<a/></def>`,
		// No field can have this name.
		`<def name="a" props="p_q"/>§<a/>`,
	} {
		expectFault(t, api.ErrCheckUse, marked)
	}
}

func TestP14_1Fourth(t *testing.T) {
	eight := "a b c d e f g h"
	long := strings.Repeat("n", 32)
	for _, marked := range []string{
		`<def §name=""/>`, `<def §name="A"/>`, `<def §name=" a"/>`, `<def §name="a_b"/>`, `<def §name="` + long + `n"/>`, `<def §name="1"/>`, `<def §name="a b" props="1"/>`, `<def §name="if"/>`, `<def §name="else"/>`, `<def §name="for"/>`, `<def §name="def"/>`, `<def §name="slot"/>`, `<def §name="fill"/>`,
		`<def name="a" §props="A"/>`, `<def §props="a-b" name="A"/>`, `<def name="a" §props="b b"/>`, `<def name="a" §props="b c b"/>`, `<def name="a" §props="null"/>`, `<def name="a" §props="b false"/>`, `<def name="a" §props="true b"/>`, `<def name="a" §props="` + eight + ` i"/>`, `<def name="a" §props="b,c"/>`, "<def name=\"a\" §props=\"b\vc\"/>", `<def name="a" §props="` + long + `n"/>`, `<def name="a" §props="1"/>`,
		`<for §each="" :in="a" :key="1"><p/></for>`, `<for §each="A" at="A" :in="a" :key="1"/>`, `<for §each=" x" :in="a" :key="1"/>`, `<for §each="x y" :in="a" :key="1"/>`, `<for §each="null" :in="a" :key="1"/>`, `<for §each="a-b" :in="a" :key="1"/>`, `<for each="x" §at="" :in="a" :key="1"/>`, `<for each="x" §at="true" :in="a" :key="1"/>`, `<for each="x" §at="x" :in="a" :key="1"/>`, `<for §at="x" :in="a" :key="1" each="x"/>`, `<for §at="1" :in="a" :key="1" each="1"/>`, `<for §each="1" :in="a" :key="1" at="1"/>`,
		`<def name="a"><slot §name="A"/></def>`, `<def name="a"><slot §name=" "/></def>`, `<def name="a"><slot :x="1" §name="a_b"/></def>`, `<def name="a"><slot §name="` + long + `n"/></def>`,
		`<def name="a"><slot/></def><a><fill §name="A" let="1"/></a>`, `<def name="a"><slot/></def><a><fill §let="A" name="A"/></a>`, `<def name="a"><slot/></def><a><fill §let="b b"/></a>`, `<def name="a"><slot/></def><a><fill §let="` + eight + ` i" name="none"/></a>`, `<def name="a"><slot/></def><a><fill §let="null"/></a>`, `<def name="a"><slot/></def><a><fill §name="a b"/></a>`,
		// at that is each stands ahead of what is asked behind it.
		`<def name="a"><for each="x" §at="x" :in="y" :key="y"/></def>`,
	} {
		expectFault(t, api.ErrCheckForm, marked)
	}
	for _, marked := range []string{
		`<def name="a">§{{ b }}</def>`, `<def name="a">§x{{ 1 }}y{{ 2 + b }}</def>`, `<def name="a"><p §:a="b"/></def>`, `<def name="a" props="b"><p :a="b" §:c="c"/></def>`, `<def name="a" props="b"><p>§{{ b }}{{ a }}</p></def>`,
		`<def name="a"><if §:test="b"/></def>`, `<def name="a"><if :test="1">§{{ b }}</if></def>`, `<def name="a"><if :test="1"/><else>§{{ b }}</else></def>`,
		`<def name="a"><for each="x" §:in="x" :key="x"><p/></for></def>`, `<def name="a"><for each="x" :in="1" §:key="y"><p/></for></def>`, `<def name="a"><for each="x" at="y" §:in="y" :key="z"><p/></for></def>`, `<def name="a"><for each="x" :in="1" :key="x"><p>§{{ y }}</p></for></def>`, `<def name="a"><for each="x" :in="1" :key="x"><p/></for>§{{ x }}</def>`,
		`<def name="a"><for §:key="x" each="X" :in="1"><p/></for></def>`, `<def name="a"><for §:in="y" each="x" at="x" :key="1"><p/></for></def>`,
		`<def name="a"><slot §:b="b"/></def>`, `<def name="a"><slot :b="1">§{{ b }}</slot></def>`, `<def name="a"><slot §:b="b" name="A"/></def>`,
		`<def name="a" props="p"/><def name="b"><a §:p="p"/></def>`, `<def name="a" props="p"/><def name="b">§{{ p }}</def>`, `<def name="a"><slot :s="1"/></def><def name="b"><a>§{{ s }}</a></def>`, `<def name="a"><slot :s="1"/></def><def name="b"><a><fill>§{{ s }}</fill></a></def>`, `<def name="a"><slot :s="1" :t="2"/></def><def name="b"><a><fill let="s">{{ s }}</fill></a>§{{ s }}</def>`, `<def name="a"><slot :s="1" :t="2"/></def><def name="b"><a><fill let="s">{{ s }}<p>§{{ t }}</p></fill></a></def>`,
		`<def name="a" props="b"><p>§{{ b.b + c.b }}</p></def>`,
	} {
		expectFault(t, api.ErrCheckName, marked)
	}
	// What may be.
	for _, row := range [][2]string{
		{`<def name="` + long + `" props="` + eight + `">{{ h }}</def>`, ""}, {`<def name="a-1" props="` + long + ` b_1"/>`, ""}, {`<def props=" " name="a"/><a/>`, "with()"},
		{`<for each="` + long + `" at="b_1" :in="a" :key="1"><p/></for>`, "for<$0.a><1>(p())"},
		{`<def name="a"><slot name="` + long + `"/><slot name="a-b" :c="1"/></def><a><fill name="a-b" let=" c "/></a>`, "with(with() with<1>())"},
		{`<def name="a"><slot :a="1" :b="1" :c="1" :d="1" :e="1" :f="1" :g="1" :h="1" :i="1"/></def><a><fill let="b c d e f g h i">{{ i }}</fill></a>`, "with(with<1><1><1><1><1><1><1><1><1>({$9}))"},
		{`<def name="a" props="x"><for each="y" :in="x" :key="y ~ x"><p>{{ x }}{{ y }}</p></for></def><a x="1"/>`, "with<'1'>(for<$1><$2 ~ $1>(p({$1}{$2})))"},
		{`<def name="a" props="nulls falsey true_"/>`, ""},
	} {
		expectCore(t, row[0], row[1])
	}
}

func TestP14_1Fifth(t *testing.T) {
	expectFault(t, api.ErrCheckDef, `<def name="a"/> §<def name="a" props="b"/>`)
	expectFault(t, api.ErrCheckDef, `<def name="a"/><def name="b"/>§<def name="a">{{ x }}</def>`)
	expectCore(t, defs(32, ""), "")
	expectFault(t, api.ErrCheckDef, defs(32, "")+`§<def name="e"><slot a=""/></def><p a="" a=""/>`)
	f := `<for each="x" :in="a" :key="x">`
	u := `<def name="u"><slot/></def>`
	for _, body := range []string{
		"", " ", "x", "{{ x }}", "<p/><p/>", "<p/> <p/>", "x<p/>", "<p/>x", "<p/>{{ x }}", `<if :test="x"/>`, `<if :test="x"/><else/>`, f + "<p/></for>", `<def name="a"/>`, "<slot/>", "<fill/>", "<else/>", " <u/> ", "<u>x</u>",
	} {
		expectFault(t, api.ErrCheckBody, u+"§"+f+body+"</for>")
	}
	expectFault(t, api.ErrCheckBody, u+`<def name="a">§<for each="x" :in="1" :key="x"><u/></for></def>`)
	expectCore(t, u+f+" <u-u> </u-u>\n</for>", "for<$0.a><$1>(u-u(' '))")
	for _, marked := range []string{
		"<u><fill/>§x</u>", "<u>§<p/><fill/></u>", "<u><fill/>§ {{ x }} <p/></u>", "<u> <fill/>§<p a=\"\" a=\"\"/></u>", "<u>§<else/><fill/></u>", "<u><fill a=\"\"/>§<u/></u>",
	} {
		expectFault(t, api.ErrCheckFill, u+marked)
	}
	for _, marked := range []string{
		`<def name="a"/>§<a>x</a>`, `<def name="a"><slot name="n"/></def>§<a><p a="" a=""/></a>`, `<def name="a"><slot name="n"/></def><p>§<a> <a/></a></p>`, `<def name="a"/>§<a>{{ 1 }}</a>`,
	} {
		expectFault(t, api.ErrCheckFill, marked)
	}
	// A slot of the empty name anywhere in the def will do.
	expectCore(t, u+`<def name="a"><p><if :test="1"/><else><u><slot name=""/></u></else></p></def><a>x</a>`, "with(p(if<1>()else(with(with(with('x'))))))")
	expectCore(t, `<def name="a"><slot name="n"><slot/></slot></def><a>x</a>`, "with(with(with('x')))")
}

func TestP14_1Sixth(t *testing.T) {
	d := `<def name="a"><slot :u="1"/><slot name="n" :u="2" :v="3"/><p><slot name="n" :v="4"/></p></def>`
	for _, marked := range []string{
		`<a>§<fill name="m"/></a>`, `<a>§<fill name="m" let="x">{{ x }}</fill><fill name="m"/></a>`, `<a><fill/>§<fill name="nn"/></a>`,
		`<a><fill §let="v"/></a>`, `<a><fill §let="u v"/></a>`, `<a><fill name="n" §let="u">{{ u }}</fill></a>`, `<a><fill §let="v u" name="n"/></a>`, `<a><fill §let="x" name="n"/></a>`,
	} {
		expectFault(t, api.ErrCheckFill, d+marked)
	}
	// The slot's plain name is no prop.
	expectFault(t, api.ErrCheckFill, `<def name="a"><slot name="n"/></def><a><fill name="n" §let="name"/></a>`)
	// Each of the slots must have the prop, the first and the last.
	for _, slots := range []string{`<slot :u="1"/><slot/>`, `<slot/><slot :u="1"/>`, `<slot :u="1"/><slot :v="1"/><slot :u="1"/>`, `<slot name="n" :u="1"/><slot><slot :u="1"/></slot>`} {
		expectFault(t, api.ErrCheckFill, `<def name="a">`+slots+`</def><a><fill §let="u"/></a>`)
	}
	expectTaken(t, `<def name="a"><slot :u="1"/><slot :v="1" :u="1"><slot :u="2"/></slot><slot name="n"/></def><a><fill let="u">{{ u }}</fill></a>`)
	for _, marked := range []string{
		`<a><fill/>§<fill/></a>`, `<a><fill name=""/> §<fill let="v"/></a>`, `<a><fill name="n"/><fill/>§<fill let="x" name="n"><slot/></fill></a>`,
	} {
		expectFault(t, api.ErrCheckTwice, d+marked)
	}
	expectCore(t, d+`<a><fill let="u">{{ u }}</fill><fill name="n" let="v">{{ v }}</fill></a>`, "with(with<1>({$1}) with<2><3>({$2}) p(with<4>({$1})))")
	// The fills of two uses have nothing to do with each other.
	expectCore(t, d+`<a><fill><a><fill>x</fill></a></fill><fill name="n"/></a><a><fill/></a>`, "with(with<1>(with(with<1>('x') with<2><3>() p(with<4>()))) with<2><3>() p(with<4>())) with(with<1>() with<2><3>() p(with<4>()))")
	expectFault(t, api.ErrCheckFill, `<def name="a"/><a>§<fill/></a>`)
}

// TestP14_1Order: of several faults the first in preorder is told, of one element the first row's.
func TestP14_1Order(t *testing.T) {
	expectFault(t, api.ErrCheckTwice, `<p><q a="" §a=""/></p><slot/>`)
	expectFault(t, api.ErrCheckSlot, `<p>§<slot/><q a="" a=""/></p><else/>`)
	expectFault(t, api.ErrCheckTwice, `<p a="" §a=""><slot/></p>`)
	expectFault(t, api.ErrCheckBody, `§<for each="x" :in="a" :key="x"><p/><p a="" a=""/></for>`)
	expectFault(t, api.ErrCheckName, `<def name="a">§{{ x }}</def><else/>`)
	expectFault(t, api.ErrCheckElse, `<def name="a">{{ 1 }}</def>§<else/><else/>`)
	// What is in a def is asked, whether it is used or not; what is too large is told behind all faults.
	expectFault(t, api.ErrCheckSlot, strings.Repeat("<p/>", 5000)+`§<slot/>`)
	expectFault(t, api.ErrCheckLarge, `<def name="a"/>`+strings.Repeat("<p/>", 4096)+`§<p/>`+strings.Repeat("<p/>", 900))
	// The rows of one element, one behind the other.
	steps := []struct {
		code   api.Errno
		marked string
	}{
		{api.ErrCheckDef, `<p/>§<def a="" name="A" name="A"/>`},
		{api.ErrCheckForm, `<def §a="" name="A" name="A"/>`},
		{api.ErrCheckTwice, `<def name="A" §name="A" a=""/>`},
		{api.ErrCheckForm, `§<def props="A"/>`},
		{api.ErrCheckForm, `<def name="a"/><def §props="A" name="a">{{ x }}</def>`},
		{api.ErrCheckDef, `<def name="a"/>§<def props="b" name="a">{{ x }}</def>`},
		{api.ErrCheckName, `<def name="a"/><def props="b" name="b">§{{ x }}</def>`},
	}
	for _, step := range steps {
		expectFault(t, step.code, step.marked)
	}
}

func TestP14_1NoNodes(t *testing.T) {
	elem := api.Node{Kind: api.NElem, Tag: "p"}
	text := api.Node{Kind: api.NText, Parts: []api.Part{{Plain: "x"}}}
	field := func(f api.Field) api.Node {
		return api.Node{Kind: api.NElem, Tag: "p", Fields: []api.Field{f}}
	}
	in := func(ns ...api.Node) api.Node { return api.Node{Kind: api.NElem, Tag: "q", Kids: ns} }
	below := func(n api.Node, at int) api.Node {
		n.At = at
		return n
	}
	for i, ns := range [][]api.Node{
		{{}}, {{Kind: 3}}, {{Kind: api.NElem}}, {{Kind: api.NElem, Tag: "P"}}, {{Kind: api.NText}}, {text, text}, {in(text, text)}, {field(api.Field{})}, {field(api.Field{Name: "a", Bound: true})}, {field(api.Field{Name: "a", Plain: "\xff"})},
		{{Kind: api.NText, Parts: []api.Part{{Plain: " "}, {Plain: "x"}}}}, slices.Repeat([]api.Node{elem}, 8193),
		{below(elem, -1)}, {elem, below(text, -1)}, {in(below(elem, -1))}, {in(in(elem, below(text, -5)))}, {field(api.Field{Name: "a", At: -1})}, {in(elem, field(api.Field{Name: "a", At: -1 << 63}))}, {elem, below(elem, -1<<63)},
		// Ahead of any fault.
		{{Kind: api.NElem, Tag: "slot"}, below(elem, -1)}, {{Kind: api.NElem, Tag: "def"}, {}},
	} {
		if got, at, code := Check(ns); len(got) > 0 || at != 0 || code != api.ErrSyntaxTree {
			t.Errorf("row %d: %s, %d at %d", i, show(got), code, at)
		}
		expectAsked(t, ns)
	}
	// Places are told as they are, whatever they are.
	if _, at, code := Check([]api.Node{below(elem, 7), below(api.Node{Kind: api.NElem, Tag: "slot"}, 1<<62), elem}); at != 1<<62 || code != api.ErrCheckSlot {
		t.Errorf("%d at %d", code, at)
	}
	for _, ns := range [][]api.Node{nil, {}} {
		if got, at, code := Check(ns); len(got) > 0 || at != 0 || code != api.OK {
			t.Errorf("%s, %d at %d", show(got), code, at)
		}
	}
}
