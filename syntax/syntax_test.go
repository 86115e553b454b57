package syntax

import (
	"fmt"
	"math/rand"
	"strings"
	"testing"

	"stencil/api"
)

// cut is a text that may be long, for a message.
func cut(s string) string {
	if len(s) > 160 {
		return fmt.Sprintf("%q .. %q (%d bytes)", s[:80], s[len(s)-60:], len(s))
	}
	return fmt.Sprintf("%q", s)
}

func told(a answer) string {
	s := fmt.Sprintf("%+v", a.nodes)
	if len(s) > 600 {
		s = s[:400] + " .. " + s[len(s)-190:]
	}
	return fmt.Sprintf("%s, %d, %d", s, a.at, a.code)
}

func expect(t *testing.T, s string, want answer) {
	t.Helper()
	ns, at, code := Parse(s)
	if !sameNodes(ns, want.nodes) || at != want.at || code != want.code {
		t.Errorf("%s: %s, want %s", cut(s), told(answer{ns, at, code}), told(want))
	}
}

func expectNodes(t *testing.T, s string, want ...api.Node) {
	t.Helper()
	expect(t, s, answer{nodes: want})
}

func expectFault(t *testing.T, s string, code api.Errno, at int) {
	t.Helper()
	expect(t, s, failed(at, code))
}

// expectAsked holds Parse of s against the second way, and answers what that told.
func expectAsked(t *testing.T, s string) answer {
	t.Helper()
	want := askedParse(s)
	expect(t, s, want)
	return want
}

// faulty is a template with the error and the place that the document asks for.
type faulty struct {
	s    string
	code api.Errno
	at   int
}

func expectFaults(t *testing.T, rows []faulty) {
	t.Helper()
	for _, r := range rows {
		expectFault(t, r.s, r.code, r.at)
		if asked := askedParse(r.s); asked.code != r.code || asked.at != r.at {
			t.Errorf("%s: %s was asked for", cut(r.s), told(asked))
		}
	}
}

func x(n int) string { return strings.Repeat("x", n) }

// expectPrinted asks for the text that the nodes of s are written as.
func expectPrinted(t *testing.T, s, want string) {
	t.Helper()
	ns, at, code := Parse(s)
	if at != 0 || code != api.OK {
		t.Errorf("%s: %d at %d", cut(s), code, at)
	}
	if got, code := Print(ns); got != want || code != api.OK {
		t.Errorf("%s: %s, %d, want %s", cut(s), cut(got), code, cut(want))
	}
}

func TestP13_1Rows(t *testing.T) {
	expectPrinted(t, `<p>a{{ x+1 }}</p>`, `<p>a{{ x + 1 }}</p>`)
	expectPrinted(t, `<p :a="x&amp;&amp;y"></p>`, `<p :a="x &amp;&amp; y"/>`)
	expectFaults(t, []faulty{{`<p></q>`, api.ErrSyntaxTag, 3}, {`<p><q>`, api.ErrSyntaxTag, 3}, {`</p>`, api.ErrSyntaxTag, 0}, {`{{}}`, api.ErrSyntaxExpr, 0}})

	sum := op(api.EAdd, variable("x"), api.Expr{Op: api.EInt, Int: 1})
	expectNodes(t, `<p>a{{ x+1 }}</p>`, elem("p", at(3, text(plain("a"), bound(sum)))))
	both := op(api.EBoth, variable("x"), variable("y"))
	expectNodes(t, `<p :a="x&amp;&amp;y"></p>`, with(elem("p"), api.Field{Name: "a", Bound: true, Expr: both, At: 3}))
	expectNodes(t, "")
}

func TestP13_1Texts(t *testing.T) {
	a, b := bound(variable("a")), bound(variable("b"))
	expectNodes(t, "x", text(plain("x")))
	expectNodes(t, " \n", text(plain(" \n")))
	expectNodes(t, "{{a}}", text(a))
	expectNodes(t, "x{{a}}", text(plain("x"), a))
	expectNodes(t, "{{a}}x", text(a, plain("x")))
	expectNodes(t, "{{a}}{{ b }}", text(a, b))
	expectNodes(t, "{{a}} {{\nb\t}}", text(a, plain(" "), b))
	expectNodes(t, "x{{a}}{{b}}y{{a}}z", text(plain("x"), a, b, plain("y"), a, plain("z")))
	expectNodes(t, "&lt;p&gt;{ } &amp;lt;{{(a)}}}}", text(plain("<p>{ } &lt;"), a, plain("}}")))
	expectNodes(t, `{{'\}\}'}}`, text(bound(api.Expr{Op: api.EStr, Str: "}}"})))
	expectNodes(t, "é{{ a ? b : '€' }}\x00", text(plain("é"), bound(op(api.EIf, variable("a"), variable("b"), api.Expr{Op: api.EStr, Str: "€"})), plain("\x00")))
	expectNodes(t, `&quot;"'`, text(plain(`""'`)))
}

func TestP13_1Elements(t *testing.T) {
	for _, s := range []string{"<p/>", "<p />", "<p\n/>", "<p></p>", "<p ></p >", "<p></p\t>"} {
		expectNodes(t, s, elem("p"))
	}
	expectNodes(t, "<p/><q/>", elem("p"), at(4, elem("q")))
	expectNodes(t, "<p></p><p></p>", elem("p"), at(7, elem("p")))
	expectNodes(t, "<p><q/></p>", elem("p", at(3, elem("q"))))
	expectNodes(t, "<p><p><p></p></p></p>", elem("p", at(3, elem("p", at(6, elem("p"))))))
	expectNodes(t, "<p><q/><q></q><r><q/></r></p><q/>", elem("p", at(3, elem("q")), at(7, elem("q")), at(14, elem("r", at(17, elem("q"))))), at(29, elem("q")))
	expectNodes(t, "a<p>b</p>c", text(plain("a")), at(1, elem("p", at(4, text(plain("b"))))), at(9, text(plain("c"))))
	expectNodes(t, "<p/>a<p/>{{b}}<p/>", elem("p"), at(4, text(plain("a"))), at(5, elem("p")), at(9, text(bound(variable("b")))), at(14, elem("p")))
	expectNodes(t, "<p>a<q/>b</p>", elem("p", at(3, text(plain("a"))), at(4, elem("q")), at(8, text(plain("b")))))
	expectNodes(t, "<p>{{a}}<q>{{b}}</q></p>{{c}}", elem("p", at(3, text(bound(variable("a")))), at(8, elem("q", at(11, text(bound(variable("b"))))))), at(24, text(bound(variable("c")))))
	expectNodes(t, "<p> </p>", elem("p", at(3, text(plain(" ")))))
	expectNodes(t, "<a-1></a-1>", elem("a-1"))
}

func TestP13_1Fields(t *testing.T) {
	a, b := variable("a"), variable("b")
	for _, end := range []string{"/>", " />", "></p>", "\n></p >"} {
		expectNodes(t, `<p a=""`+end, with(elem("p"), api.Field{Name: "a", At: 3}))
		expectNodes(t, `<p a="1"`+end, with(elem("p"), api.Field{Name: "a", Plain: "1", At: 3}))
		expectNodes(t, `<p :a="a"`+end, with(elem("p"), api.Field{Name: "a", Bound: true, Expr: a, At: 3}))
		expectNodes(t, "<p\n\ta=\"&lt;{{x}}\"  :b=\" ( b ) \""+end, with(elem("p"), api.Field{Name: "a", Plain: "<{{x}}", At: 4}, api.Field{Name: "b", Bound: true, Expr: b, At: 19}))
		expectNodes(t, `<p a="1" a="2" :a="a" :a="b" a="3"`+end, with(elem("p"), api.Field{Name: "a", Plain: "1", At: 3}, api.Field{Name: "a", Plain: "2", At: 9}, api.Field{Name: "a", Bound: true, Expr: a, At: 15}, api.Field{Name: "a", Bound: true, Expr: b, At: 22}, api.Field{Name: "a", Plain: "3", At: 29}))
		expectNodes(t, `<p :a="a&lt;b" b="a&lt;b"`+end, with(elem("p"), api.Field{Name: "a", Bound: true, Expr: op(api.ELess, a, b), At: 3}, api.Field{Name: "b", Plain: "a<b", At: 15}))
		expectNodes(t, `<p :a="a<b"`+end, with(elem("p"), api.Field{Name: "a", Bound: true, Expr: op(api.ELess, a, b), At: 3}))
		expectNodes(t, `<p :a="'}}'"`+end, with(elem("p"), api.Field{Name: "a", Bound: true, Expr: api.Expr{Op: api.EStr, Str: "}}"}, At: 3}))
		expectNodes(t, `<p a="x">`+`<p :b="b"`+end+`</p>`, with(elem("p", at(9, with(elem("p"), api.Field{Name: "b", Bound: true, Expr: b, At: 12}))), api.Field{Name: "a", Plain: "x", At: 3}))
	}
	expectNodes(t, `<p><q a=""/></p><r b="x"/>`, elem("p", at(3, with(elem("q"), api.Field{Name: "a", At: 6}))), at(16, with(elem("r"), api.Field{Name: "b", Plain: "x", At: 19})))
	expectNodes(t, `x<if :test="a">y</if>`, text(plain("x")), at(1, with(elem("if", at(15, text(plain("y")))), api.Field{Name: "test", Bound: true, Expr: a, At: 5})))
}

// TestP13_1Lex: what Lex refuses is told as Lex tells it, ahead of all that stands in front of it.
func TestP13_1Lex(t *testing.T) {
	expectFaults(t, []faulty{
		{"<p", api.ErrLexTag, 2}, {"<p a>", api.ErrLexTag, 4}, {"</p", api.ErrLexTag, 3}, {"{{a", api.ErrLexBrace, 0}, {"a&b", api.ErrLexEntity, 1}, {`<p a="`, api.ErrLexAttr, 5}, {"a\xff", api.ErrLexUtf, 1}, {x(4097), api.ErrLexLong, 0}, {`<p a="` + x(4097) + `"/>`, api.ErrLexLong, 5}, {x(api.MaxTemplate + 1), api.ErrLexLong, 0},
		{"<p></q>&", api.ErrLexEntity, 7}, {"</p>{{", api.ErrLexBrace, 4}, {"{{}}<", api.ErrLexTag, 5}, {"{{}}\x80", api.ErrLexUtf, 4}, {"<p>" + x(4097), api.ErrLexLong, 3}, {`<p :a=""><q a="`, api.ErrLexAttr, 14},
		{strings.Repeat("<p>", 33) + "&", api.ErrLexEntity, 99}, {strings.Repeat("<p/>", 8193) + "&", api.ErrLexEntity, 4 * 8193},
	})
}

func TestP13_1Tags(t *testing.T) {
	expectFaults(t, []faulty{
		{"</p>", api.ErrSyntaxTag, 0}, {"a</p>", api.ErrSyntaxTag, 1}, {"{{a}}</p>", api.ErrSyntaxTag, 5}, {"<p/></p>", api.ErrSyntaxTag, 4}, {"<p></p></p>", api.ErrSyntaxTag, 7}, {"<p></p></q>", api.ErrSyntaxTag, 7}, {"</p></p>", api.ErrSyntaxTag, 0}, {"</p><p>", api.ErrSyntaxTag, 0},
		{"<p></q>", api.ErrSyntaxTag, 3}, {"<p></pp>", api.ErrSyntaxTag, 3}, {"<pp></p>", api.ErrSyntaxTag, 4}, {"<p>a</q>", api.ErrSyntaxTag, 4}, {"<p><q></p></q>", api.ErrSyntaxTag, 6}, {"<p><q/></q></p>", api.ErrSyntaxTag, 7}, {"<p><q></q></q></p>", api.ErrSyntaxTag, 10}, {"<a><b><c></b></c></a>", api.ErrSyntaxTag, 9},
		{"<p>", api.ErrSyntaxTag, 0}, {"<p>a", api.ErrSyntaxTag, 0}, {"a<p>", api.ErrSyntaxTag, 1}, {`<p a="" :b="c">`, api.ErrSyntaxTag, 0}, {"<p><q>", api.ErrSyntaxTag, 3}, {"<p><q></q>", api.ErrSyntaxTag, 0}, {"<p><q/>", api.ErrSyntaxTag, 0}, {"<p></p><p>", api.ErrSyntaxTag, 7}, {"<p><q><r></r>", api.ErrSyntaxTag, 3}, {"<p><p></p>", api.ErrSyntaxTag, 0}, {"<p><q></q><q>", api.ErrSyntaxTag, 10}, {"<a>\n<b>\n<c>\n</c>\n{{d}}", api.ErrSyntaxTag, 4},
	})
}

func TestP13_1Expressions(t *testing.T) {
	for _, bad := range []string{"", " ", "a b", "a +", "+", "f(1)", "01", "a.1", "'a", "A", "1 2", "(a", "a)", "9223372036854775808", "a ? b", "{a", "{", "a;", "é", "'\n'", "a &amp;&amp; ", strings.Repeat("(", 33) + "a" + strings.Repeat(")", 33), strings.Repeat("a+", 256) + "a", "'" + x(4097) + "'"} {
		expectFaults(t, []faulty{
			{"{{" + bad + "}}", api.ErrSyntaxExpr, 0}, {"a{{" + bad + "}}b", api.ErrSyntaxExpr, 1}, {"{{a}}{{" + bad + "}}", api.ErrSyntaxExpr, 5}, {"<p>{{" + bad + "}}</p>", api.ErrSyntaxExpr, 3},
			{`<p :a="` + bad + `"/>`, api.ErrSyntaxExpr, 3}, {`<p :a="` + bad + `"></p>`, api.ErrSyntaxExpr, 3}, {`<p a="" :b="a"` + "\n" + ` :c="` + bad + `"/>`, api.ErrSyntaxExpr, 16}, {`<p><q :a="` + bad + `"/></p>`, api.ErrSyntaxExpr, 6},
		})
		if !strings.Contains(bad, "&amp;") {
			expectNodes(t, `<p a="`+cutTo(bad, 4096)+`"/>`, with(elem("p"), api.Field{Name: "a", Plain: cutTo(bad, 4096), At: 3}))
		}
	}
	// An entity stands for something in an attribute, not in an interpolation.
	expectFaults(t, []faulty{{"{{ a &lt; b }}", api.ErrSyntaxExpr, 0}, {`{{ &quot;a&quot; }}`, api.ErrSyntaxExpr, 0}, {`<p :a="&quot;a&quot;"/>`, api.ErrSyntaxExpr, 3}, {`<p :a="{{a}}"/>`, api.ErrSyntaxExpr, 3}, {"{{ '}}' }}", api.ErrSyntaxExpr, 0}, {"{{{a}}}", api.ErrSyntaxExpr, 0}})
	// The limits are the expression's own.
	for _, good := range []string{strings.Repeat("(", 31) + "a" + strings.Repeat(")", 31), strings.Repeat("a+", 255) + "a", "'" + x(4096) + "'", "9223372036854775807"} {
		expectNodes(t, "{{"+good+"}}", text(bound(read(good))))
		expectNodes(t, `<p :a="`+good+`"/>`, with(elem("p"), api.Field{Name: "a", Bound: true, Expr: read(good), At: 3}))
	}
	expectNodes(t, `<p :a="'`+strings.Repeat("&lt;", 4096)+`'"/>`, with(elem("p"), api.Field{Name: "a", Bound: true, Expr: api.Expr{Op: api.EStr, Str: strings.Repeat("<", 4096)}, At: 3}))
}

func cutTo(s string, n int) string { return s[:min(len(s), n)] }

// nested is n elements in one another, around what stands in the innermost.
func nested(n int, inner string) string {
	return strings.Repeat("<p>", n) + inner + strings.Repeat("</p>", n)
}

func TestP13_1Deep(t *testing.T) {
	want := []api.Node{at(3*api.MaxNest, text(plain("x")))}
	for i := api.MaxNest - 1; i >= 0; i-- {
		want = []api.Node{at(3*i, elem("p", want...))}
	}
	expectNodes(t, nested(32, "x"), want...)
	for _, inner := range []string{"", "x", "{{a}}", "x{{a}}"} {
		expectAsked(t, nested(32, inner))
		expectAsked(t, nested(31, inner+"<q/>"+inner+"<q>"+inner+"</q>"))
	}
	if _, _, code := Parse(strings.Repeat(nested(32, ""), 9)); code != api.OK {
		t.Errorf("many that are nested: %d", code)
	}
	expectFaults(t, []faulty{
		{nested(33, ""), api.ErrSyntaxDeep, 96}, {nested(100, "x"), api.ErrSyntaxDeep, 96}, {nested(32, "<q/>"), api.ErrSyntaxDeep, 96}, {nested(32, "x<q></q>"), api.ErrSyntaxDeep, 97}, {nested(31, "<q/><q></q><q><q/>"), api.ErrSyntaxDeep, 107}, {strings.Repeat("<p>", 33), api.ErrSyntaxDeep, 96}, {nested(32, "") + nested(33, ""), api.ErrSyntaxDeep, 320}, {"x" + nested(33, ""), api.ErrSyntaxDeep, 97},
		{strings.Repeat("<p>", 32), api.ErrSyntaxTag, 93}, {nested(32, "") + "</p>", api.ErrSyntaxTag, 224}, {strings.Repeat("<p>", 32) + "x{{}}", api.ErrSyntaxExpr, 97}, {strings.Repeat("<p>", 32) + "</q>", api.ErrSyntaxTag, 96},
		{strings.Repeat("<p>", 32) + `<q :a="">`, api.ErrSyntaxDeep, 96}, {strings.Repeat("<p>", 31) + `<q :a="">`, api.ErrSyntaxExpr, 96}, {strings.Repeat("<p>", 21000), api.ErrSyntaxDeep, 96},
	})
}

func TestP13_1Large(t *testing.T) {
	for _, s := range []string{
		strings.Repeat("<p/>", 8192), strings.Repeat("x<p/>", 4096), strings.Repeat("<p/>{{a}}", 4095) + "<p/>x", "<p>" + strings.Repeat("<p/>", 8191) + "</p>", strings.Repeat("<p>x</p>", 4096), nested(32, strings.Repeat("x{{a}}", 5000)),
	} {
		if want := expectAsked(t, s); want.code != api.OK || count(want.nodes) > 8192 {
			t.Errorf("%s: %d, %d nodes", cut(s), want.code, count(want.nodes))
		}
	}
	elements := strings.Repeat("<p/>", 8192)
	mixed := strings.Repeat("x<p/>", 4096)
	expectFaults(t, []faulty{
		{elements + "<p/>", api.ErrSyntaxLarge, 32768}, {elements + "<p></p>", api.ErrSyntaxLarge, 32768}, {elements + "x", api.ErrSyntaxLarge, 32768}, {elements + "{{a}}", api.ErrSyntaxLarge, 32768}, {elements + elements, api.ErrSyntaxLarge, 32768},
		{mixed + "x", api.ErrSyntaxLarge, 20480}, {mixed + "<p/>", api.ErrSyntaxLarge, 20480}, {"<p>" + elements + "</p>", api.ErrSyntaxLarge, 3 + 4*8191}, {"{{a}}" + elements, api.ErrSyntaxLarge, 5 + 4*8191},
		{elements + "{{}}", api.ErrSyntaxLarge, 32768}, {elements + "x{{}}", api.ErrSyntaxLarge, 32768}, {elements + `<p :a=""/>`, api.ErrSyntaxLarge, 32768}, {elements + "</p>", api.ErrSyntaxTag, 32768},
		{strings.Repeat("<p/>", 8191) + "x{{}}", api.ErrSyntaxExpr, 32765}, {strings.Repeat("<p/>", 8191) + `<p :a="">`, api.ErrSyntaxExpr, 32767}, {strings.Repeat("<p/>", 8191) + "<p>", api.ErrSyntaxTag, 32764}, {strings.Repeat("<p/>", 8191) + "<p>x", api.ErrSyntaxLarge, 32767},
		// Of one token: too many nodes ahead of too deep.
		{strings.Repeat("<p/>", 8160) + strings.Repeat("<p>", 32) + "<p>", api.ErrSyntaxLarge, 32640 + 96}, {strings.Repeat("<p/>", 8159) + strings.Repeat("<p>", 32) + "<p>", api.ErrSyntaxDeep, 32636 + 96}, {strings.Repeat("<p/>", 8160) + strings.Repeat("<p>", 32) + "{{}}", api.ErrSyntaxLarge, 32640 + 96}, {strings.Repeat("<p/>", 8160) + strings.Repeat("<p>", 32) + "</q>", api.ErrSyntaxTag, 32640 + 96},
	})
	// All parts of a text are one node.
	one := strings.Repeat("{{a}}x", 10000)
	ns, _, code := Parse(one)
	if code != api.OK || len(ns) != 1 || len(ns[0].Parts) != 20000 {
		t.Errorf("a text of many parts: %d, %d nodes", code, len(ns))
	}
}

// TestP13_1FirstFault: of several faults that of the first token.
func TestP13_1FirstFault(t *testing.T) {
	expectFaults(t, []faulty{
		{"{{}}</p>", api.ErrSyntaxExpr, 0}, {"</p>{{}}", api.ErrSyntaxTag, 0}, {"<p>{{}}", api.ErrSyntaxExpr, 3}, {"<p></q>{{}}", api.ErrSyntaxTag, 3}, {`<p :a=""></q>`, api.ErrSyntaxExpr, 3}, {`<p :a="" :b=""/>`, api.ErrSyntaxExpr, 3}, {`<p :a="a" :b=""/>{{}}`, api.ErrSyntaxExpr, 10}, {`{{}}<p :a=""/>`, api.ErrSyntaxExpr, 0}, {`x{{ a }}{{ a b }}{{}}`, api.ErrSyntaxExpr, 8},
		{"</q>" + strings.Repeat("<p>", 40), api.ErrSyntaxTag, 0}, {"{{}}" + strings.Repeat("<p>", 40), api.ErrSyntaxExpr, 0}, {strings.Repeat("<p>", 40) + "{{}}", api.ErrSyntaxDeep, 96}, {strings.Repeat("<p>", 40) + "</q>", api.ErrSyntaxDeep, 96}, {strings.Repeat("<p>", 20) + "</q>" + strings.Repeat("<p>", 20), api.ErrSyntaxTag, 60},
		{"</q>" + strings.Repeat("<p/>", 9000), api.ErrSyntaxTag, 0}, {strings.Repeat("<p/>", 9000) + "</q>", api.ErrSyntaxLarge, 32768}, {strings.Repeat("<p/>", 9000) + strings.Repeat("<p>", 40), api.ErrSyntaxLarge, 32768}, {strings.Repeat("<p>", 40) + strings.Repeat("<p/>", 9000), api.ErrSyntaxDeep, 96},
	})
}

// shortTexts hands every text of up to n pieces to the loop.
func shortTexts(n int, pieces ...string) func(yield func(string) bool) {
	return func(yield func(string) bool) {
		texts := []string{""}
		for range n + 1 {
			var longer []string
			for _, s := range texts {
				if !yield(s) {
					return
				}
				for _, piece := range pieces {
					longer = append(longer, s+piece)
				}
			}
			texts = longer
		}
	}
}

func TestP13_1EveryShortTemplate(t *testing.T) {
	codes := map[api.Errno]int{}
	for s := range shortTexts(6, "<p>", "</p>", "<q>", "</q>", "<p/>", "x", "{{a}}") {
		if codes[expectAsked(t, s).code]++; t.Failed() {
			return
		}
	}
	for s := range shortTexts(5, "<p", ">", "/>", "</p>", ` :a="b"`, ` :a=""`, ` a="c"`, "{{}}", "{{a}}", "x") {
		if codes[expectAsked(t, s).code]++; t.Failed() {
			return
		}
	}
	if min(codes[api.OK], codes[api.ErrSyntaxTag], codes[api.ErrSyntaxExpr], codes[api.ErrLexTag]) < 1000 {
		t.Errorf("the answers are too much alike: %v", codes)
	}
}

// TestP13_1Made makes templates from their nodes, then spoils them.
func TestP13_1Made(t *testing.T) {
	m := maker{rand.New(rand.NewSource(131))}
	codes := map[api.Errno]int{}
	for range 20000 {
		want := m.nodes(m.Intn(5))
		s := m.template(want)
		expectNodes(t, s, want...)
		bad := m.spoilt(s)
		codes[expectAsked(t, s).code]++
		codes[expectAsked(t, bad).code]++
		codes[expectAsked(t, m.spoilt(bad)).code]++
		if t.Failed() {
			return
		}
	}
	if codes[api.OK] < 20000 || min(codes[api.ErrSyntaxTag], codes[api.ErrSyntaxExpr], codes[api.ErrLexTag], codes[api.ErrLexEntity]) < 300 {
		t.Errorf("the answers are too much alike: %v", codes)
	}
}
