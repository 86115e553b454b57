package syntax

import (
	"fmt"
	"math"
	"math/rand"
	"slices"
	"strings"
	"testing"

	"stencil/api"
)

func expectText(t *testing.T, want string, ns ...api.Node) {
	t.Helper()
	if got, code := Print(ns); got != want || code != api.OK {
		t.Errorf("%s: %s, %d, want %s", told(answer{nodes: ns}), cut(got), code, cut(want))
	}
	if words := against(ns); len(words) > 0 {
		t.Errorf("%s: %q speak against it", told(answer{nodes: ns}), words)
	}
}

func expectRefused(t *testing.T, name string, ns ...api.Node) {
	t.Helper()
	if got, code := Print(ns); got != "" || code != api.ErrSyntaxTree {
		t.Errorf("%s: %s, %d", name, cut(got), code)
	}
	if len(against(ns)) == 0 {
		t.Errorf("%s: nothing speaks against it", name)
	}
}

// expectAskedPrint holds Print against the second way, and answers what that told.
func expectAskedPrint(t *testing.T, ns []api.Node) []string {
	t.Helper()
	words := against(ns)
	got, code := Print(ns)
	if len(words) > 0 {
		if got != "" || code != api.ErrSyntaxTree {
			t.Errorf("%s: %s, %d, but %q", told(answer{nodes: ns}), cut(got), code, words)
		}
	} else if want := askedText(ns); got != want || code != api.OK {
		t.Errorf("%s: %s, %d, want %s", told(answer{nodes: ns}), cut(got), code, cut(want))
	}
	return words
}

func TestP13_2Texts(t *testing.T) {
	a, b := bound(variable("a")), bound(op(api.EAdd, variable("b"), api.Expr{Op: api.EInt, Int: 1}))
	expectText(t, "")
	expectText(t, "x", text(plain("x")))
	expectText(t, "{{ a }}", text(a))
	expectText(t, "{{ a }}{{ b + 1 }}", text(a, b))
	expectText(t, "x{{ a }}", text(plain("x"), a))
	expectText(t, "{{ b + 1 }} \n{{ a }}y", text(b, plain(" \n"), a, plain("y")))
	expectText(t, `&lt;p a="1"&gt;&amp;amp;&lbrace;&lbrace;a}}`, text(plain(`<p a="1">&amp;{{a}}`)))
	expectText(t, "é€😀\x00\x7f'", text(plain("é€😀\x00\x7f'")))
	expectText(t, `{{ '\}\}<&"{' }}`, text(bound(api.Expr{Op: api.EStr, Str: `}}<&"{`})))
	expectText(t, `{{ '\n\\\'' }}`, text(bound(api.Expr{Op: api.EStr, Str: "\n\\'"})))
	expectText(t, "{{ a ? -b : !(a && b) }}", text(bound(op(api.EIf, variable("a"), op(api.ENeg, variable("b")), op(api.ENot, op(api.EBoth, variable("a"), variable("b")))))))
}

func TestP13_2Elements(t *testing.T) {
	x := text(plain("x"))
	expectText(t, "<p/>", elem("p"))
	expectText(t, "<p/><q/>", elem("p"), elem("q"))
	expectText(t, "<p><q/></p>", elem("p", elem("q")))
	expectText(t, "<p>x</p>", elem("p", x))
	expectText(t, "x<p>x</p>x<p/>x", x, elem("p", x), x, elem("p"), x)
	expectText(t, "<a-1>x<b><c/><c>x</c></b>x</a-1>", elem("a-1", x, elem("b", elem("c"), elem("c", x)), x))
	expectText(t, "<p>x<q>x</q></p>x", elem("p", x, elem("q", x)), x)

	less := op(api.ELess, variable("a"), variable("b"))
	expectText(t, `<p a=""/>`, with(elem("p"), api.Field{Name: "a"}))
	expectText(t, `<p a="1">x</p>`, with(elem("p", x), api.Field{Name: "a", Plain: "1"}))
	expectText(t, `<p :a="a &lt; b"/>`, with(elem("p"), api.Field{Name: "a", Bound: true, Expr: less}))
	expectText(t, `<p a="&lt;&gt;&amp;&quot;&lbrace;'}" :a="'&lt;&gt;&amp;&quot;&lbrace;\'\}'"><q/></p>`, with(elem("p", elem("q")), api.Field{Name: "a", Plain: `<>&"{'}`}, api.Field{Name: "a", Bound: true, Expr: api.Expr{Op: api.EStr, Str: `<>&"{'}`}}))
	expectText(t, `<p b="x" a="y" b="x" :c="a &lt; b" :c-2="a"/>`, with(elem("p"), api.Field{Name: "b", Plain: "x"}, api.Field{Name: "a", Plain: "y"}, api.Field{Name: "b", Plain: "x"}, api.Field{Name: "c", Bound: true, Expr: less}, api.Field{Name: "c-2", Bound: true, Expr: variable("a")}))
}

// TestP13_2Unlooked: places do not matter, and an empty list is as good as none.
func TestP13_2Unlooked(t *testing.T) {
	for _, place := range []int{0, 1, -1, 99, math.MaxInt, math.MinInt} {
		expectText(t, `x<p a="" :b="c">x</p>`, at(place, text(plain("x"))), at(place, with(elem("p", at(-place, text(plain("x")))), api.Field{Name: "a"}, api.Field{Name: "b", Bound: true, Expr: variable("c")}), place, place))
	}
	none := api.Expr{Kids: []api.Expr{}}
	expectText(t, "x{{ a }}", api.Node{Kind: api.NText, Fields: []api.Field{}, Kids: []api.Node{}, Parts: []api.Part{{Plain: "x", Expr: none}, {Bound: true, Expr: api.Expr{Op: api.EVar, Str: "a", Kids: []api.Expr{}}}}})
	expectText(t, `<p a="b"/>`, api.Node{Kind: api.NElem, Tag: "p", Parts: []api.Part{}, Kids: []api.Node{}, Fields: []api.Field{{Name: "a", Plain: "b", Expr: none}}})
	if s, code := Print([]api.Node{}); s != "" || code != api.OK {
		t.Errorf("no nodes: %q, %d", s, code)
	}
}

// around is each of the places where nodes may stand.
func around(ns ...api.Node) map[string][]api.Node {
	last := elem("b")
	return map[string][]api.Node{
		"alone":      ns,
		"in an elem": {elem("p", ns...)},
		"deep":       {elem("p", elem("q", text(plain("x"))), elem("q", elem("r", ns...)))},
		"ahead":      append(slices.Clone(ns), last),
		"behind":     append([]api.Node{last}, ns...),
	}
}

func expectRefusedAnywhere(t *testing.T, name string, ns ...api.Node) {
	t.Helper()
	for where, all := range around(ns...) {
		expectRefused(t, name+", "+where, all...)
	}
}

func TestP13_2Kinds(t *testing.T) {
	expectRefusedAnywhere(t, "zero", api.Node{})
	for _, kind := range []int{0, 3, 4, -1, 1 << 32, math.MaxInt, math.MinInt} {
		expectRefusedAnywhere(t, "a kind that is none", api.Node{Kind: kind})
		expectRefusedAnywhere(t, "a kind that is none, with a tag", api.Node{Kind: kind, Tag: "p"})
		expectRefusedAnywhere(t, "a kind that is none, with parts", api.Node{Kind: kind, Parts: []api.Part{plain("x")}})
	}
	full := text(plain("x"))
	for name, n := range map[string]api.Node{
		"a text with a tag":       {Kind: api.NText, Parts: full.Parts, Tag: "p"},
		"a text with fields":      {Kind: api.NText, Parts: full.Parts, Fields: []api.Field{{Name: "a"}}},
		"a text with zero fields": {Kind: api.NText, Parts: full.Parts, Fields: []api.Field{{}}},
		"a text with kids":        {Kind: api.NText, Parts: full.Parts, Kids: []api.Node{elem("p")}},
		"a text of a tag alone":   {Kind: api.NText, Tag: "p"},
		"a text without parts":    {Kind: api.NText},
		"an element with parts":   {Kind: api.NElem, Tag: "p", Parts: full.Parts},
		"one with a zero part":    {Kind: api.NElem, Tag: "p", Parts: []api.Part{{}}},
		"one of parts alone":      {Kind: api.NElem, Parts: full.Parts},
	} {
		expectRefusedAnywhere(t, name, n)
	}
	expectRefusedAnywhere(t, "two texts", full, full)
	expectRefusedAnywhere(t, "two texts, one bound", full, text(bound(variable("a"))))
	expectRefusedAnywhere(t, "three nodes", elem("p"), full, full)
	expectText(t, "x<p>x</p>x", full, elem("p", full), full)
}

func TestP13_2Names(t *testing.T) {
	for _, name := range []string{"", "P", "pP", "1", "1a", "-", "-a", "a_b", "_", "é", "a b", " a", "a ", "a:b", ":a", "a.b", "a>", "a=", "a\x00", "a\n", "{", "a/", strings.Repeat("n", 33), x(5000), "\xff", "a\xff"} {
		expectRefusedAnywhere(t, "a wrong tag", elem(name))
		expectRefusedAnywhere(t, "a wrong tag around", elem(name, text(plain("x"))))
		expectRefusedAnywhere(t, "a wrong name", with(elem("p"), api.Field{Name: name}))
		expectRefusedAnywhere(t, "a wrong second name", with(elem("p"), api.Field{Name: "a"}, api.Field{Name: name, Plain: "x"}))
		expectRefusedAnywhere(t, "a wrong bound name", with(elem("p"), api.Field{Name: name, Bound: true, Expr: variable("a")}))
	}
	for _, name := range []string{"a", "z", "a1", "a-", "a-b", "a--", "z09", strings.Repeat("n", 32)} {
		expectText(t, "<"+name+"/>", elem(name))
		expectText(t, "<"+name+">x</"+name+">", elem(name, text(plain("x"))))
		expectText(t, "<p "+name+`="x" :`+name+`="y"/>`, with(elem("p"), api.Field{Name: name, Plain: "x"}, api.Field{Name: name, Bound: true, Expr: variable("y")}))
	}
}

// wrongExprs are trees that expr.Print does not take.
func wrongExprs() []api.Expr {
	chain := variable("a")
	for range api.MaxExpr {
		chain = op(api.ENot, chain)
	}
	return []api.Expr{{}, {Op: 32}, {Op: -1}, {Str: "a"}, {Kids: []api.Expr{variable("a")}}, {Op: api.EVar}, {Op: api.EVar, Str: "A"}, {Op: api.EVar, Str: "null"}, {Op: api.EInt, Int: -1}, {Op: api.EInt, Str: "1"}, {Op: api.ENeg}, {Op: api.EStr, Str: "\t"}, {Op: api.EStr, Str: "\xff"}, {Op: api.EStr, Str: x(4097)}, op(api.EAdd, variable("a")), op(api.EAdd, variable("a"), api.Expr{}), chain}
}

func TestP13_2Parts(t *testing.T) {
	a := bound(variable("a"))
	for name, parts := range map[string][]api.Part{
		"an empty part":           {plain("")},
		"an empty part behind":    {a, plain("")},
		"an empty part ahead":     {plain(""), a},
		"two plain parts":         {plain("x"), plain("y")},
		"two plain parts behind":  {a, plain("x"), plain("y")},
		"two plain parts ahead":   {plain("x"), plain("y"), a},
		"not valid":               {plain("\xff")},
		"not valid behind":        {plain("x"), a, plain("é\xc3")},
		"not valid, surrogates":   {plain("\xed\xa0\x80")},
		"too long":                {plain(x(4097))},
		"too long behind":         {plain(x(4096)), a, plain(x(4097))},
		"too long by two bytes":   {plain(strings.Repeat("é", 2048) + "é")},
		"plain with an expr":      {{Plain: "x", Expr: variable("a")}},
		"plain with an Op":        {{Plain: "x", Expr: api.Expr{Op: api.ENull}}},
		"plain with an Int":       {{Plain: "x", Expr: api.Expr{Int: 1}}},
		"plain with a Str":        {{Plain: "x", Expr: api.Expr{Str: "a"}}},
		"plain with kids":         {{Plain: "x", Expr: api.Expr{Kids: []api.Expr{{}}}}},
		"bound with a plain text": {{Plain: "x", Bound: true, Expr: variable("a")}},
		"bound without an expr":   {{Bound: true}},
		"bound, second of two":    {a, {Bound: true}},
		"neither":                 {{Expr: variable("a")}},
	} {
		expectRefusedAnywhere(t, name, text(parts...))
	}
	for _, e := range wrongExprs() {
		expectRefusedAnywhere(t, "a wrong expression", text(bound(e)))
		expectRefusedAnywhere(t, "a wrong expression behind", text(plain("x"), a, bound(e)))
		expectRefusedAnywhere(t, "a wrong bound field", with(elem("p"), api.Field{Name: "a", Bound: true, Expr: e}))
	}
}

func TestP13_2Fields(t *testing.T) {
	for name, field := range map[string]api.Field{
		"zero":                    {},
		"plain without a name":    {Plain: "x"},
		"not valid":               {Name: "a", Plain: "\x80"},
		"too long":                {Name: "a", Plain: x(4097)},
		"too long by two bytes":   {Name: "a", Plain: strings.Repeat("é", 2049)},
		"plain with an expr":      {Name: "a", Plain: "x", Expr: variable("a")},
		"empty with an expr":      {Name: "a", Expr: variable("a")},
		"plain with an Op":        {Name: "a", Expr: api.Expr{Op: api.ETrue}},
		"plain with an Int":       {Name: "a", Expr: api.Expr{Int: -1}},
		"plain with a Str":        {Name: "a", Expr: api.Expr{Str: "b"}},
		"plain with kids":         {Name: "a", Expr: api.Expr{Kids: make([]api.Expr, 1)}},
		"bound with a plain text": {Name: "a", Plain: "a", Bound: true, Expr: variable("a")},
		"bound without an expr":   {Name: "a", Bound: true},
	} {
		expectRefusedAnywhere(t, name, with(elem("p"), field))
		expectRefusedAnywhere(t, name+" around", with(elem("p", elem("q")), field))
		expectRefusedAnywhere(t, name+" behind", with(elem("p"), api.Field{Name: "a"}, field))
		expectRefusedAnywhere(t, name+" ahead", with(elem("p"), field, api.Field{Name: "b", Bound: true, Expr: variable("b")}))
	}
}

func TestP13_2LongTexts(t *testing.T) {
	for _, c := range [][2]string{{x(4096), x(4096)}, {strings.Repeat("<", 4096), strings.Repeat("&lt;", 4096)}, {strings.Repeat("é", 2048), strings.Repeat("é", 2048)}} {
		expectText(t, c[1], text(plain(c[0])))
		expectText(t, c[1]+"{{ a }}"+c[1], text(plain(c[0]), bound(variable("a")), plain(c[0])))
		expectText(t, `<p a="`+c[1]+`" b="`+c[1]+`"/>`, with(elem("p"), api.Field{Name: "a", Plain: c[0]}, api.Field{Name: "b", Plain: c[0]}))
	}
	// The length of the whole is not looked at.
	ns, want := []api.Node(nil), ""
	for range 40 {
		ns = append(ns, text(plain(strings.Repeat("{", 4096))), elem("p"))
		want += strings.Repeat("&lbrace;", 4096) + "<p/>"
	}
	expectText(t, want, ns...)
	expectFault(t, want, api.ErrLexLong, 0)
}

func TestP13_2Deep(t *testing.T) {
	nest := func(n int, inner ...api.Node) []api.Node {
		for range n {
			inner = []api.Node{elem("p", inner...)}
		}
		return inner
	}
	x := text(plain("x"))
	expectText(t, strings.Repeat("<p>", 31)+"<p/>"+strings.Repeat("</p>", 31), nest(32)...)
	expectText(t, nested(32, "x"), nest(32, x)...)
	expectText(t, nested(31, "x<p/>x<q>x</q>"), nest(31, x, elem("p"), x, elem("q", x))...)
	expectRefused(t, "33 deep", nest(33)...)
	expectRefused(t, "33 deep, with a text", nest(33, x)...)
	expectRefused(t, "33 deep, behind others", nest(31, x, elem("q"), elem("q", elem("r")))...)
	expectRefused(t, "33 deep, behind a text", nest(32, x, elem("q"))...)
	expectRefused(t, "4096 deep", nest(4096)...)
}

func TestP13_2Large(t *testing.T) {
	row := func(n int) []api.Node {
		ns := make([]api.Node, n)
		for i := range ns {
			ns[i] = elem("p")
			if i%2 == 1 {
				ns[i] = text(plain("x"))
			}
		}
		return ns
	}
	expectText(t, strings.Repeat("<p/>x", 4096), row(8192)...)
	expectText(t, "<q>"+strings.Repeat("<p/>x", 4095)+"<p/></q>", elem("q", row(8191)...))
	expectText(t, "<q>"+strings.Repeat("<p/>x", 2047)+"<p/></q><q>"+strings.Repeat("<p/>x", 2047)+"<p/></q>", elem("q", row(4095)...), elem("q", row(4095)...))
	expectRefused(t, "one more", row(8193)...)
	expectRefused(t, "one more, with an element around", elem("q", row(8192)...))
	expectRefused(t, "one more, in two", elem("q", row(4095)...), elem("q", row(4096)...))
	expectRefused(t, "one more behind", elem("q", row(8191)...), elem("r"))
	expectRefused(t, "one more inside", elem("q", append(row(8189), elem("r"), elem("r", elem("r")))...))
	expectRefused(t, "many", row(100000)...)
	// Neither parts nor fields are nodes.
	many := text(slices.Repeat([]api.Part{bound(variable("a"))}, 9000)...)
	expectText(t, strings.Repeat("{{ a }}", 9000), many)
	expectText(t, "<p"+strings.Repeat(` a=""`, 9000)+"/>", with(elem("p"), slices.Repeat([]api.Field{{Name: "a"}}, 9000)...))
}

// copied is a copy of nodes that shares no list with them.
func copied(ns []api.Node) []api.Node {
	out := slices.Clone(ns)
	for i := range out {
		out[i].Fields = slices.Clone(out[i].Fields)
		out[i].Parts = slices.Clone(out[i].Parts)
		out[i].Kids = copied(out[i].Kids)
	}
	return out
}

// all is every node, by its address.
func all(ns []api.Node) []*api.Node {
	var out []*api.Node
	for i := range ns {
		out = append(append(out, &ns[i]), all(ns[i].Kids)...)
	}
	return out
}

// spoil changes one of the nodes, so that it may not be, or so that it may be still.
func (m maker) spoil(ns []api.Node) {
	nodes := all(ns)
	n := nodes[m.Intn(len(nodes))]
	switch m.Intn(8) {
	case 0:
		n.Kind = m.Intn(4)
	case 1:
		n.Tag = m.pick("", "p", "P", "a_", strings.Repeat("n", 33), "q")
	case 2:
		n.Kids = append(n.Kids, m.text())
	case 3:
		n.Parts = append(n.Parts, m.spoiltPart(api.Part{}))
	case 4:
		n.Fields = append(n.Fields, api.Field{Name: m.pick("", "a", "A", "b-c")})
	case 5:
		if len(n.Parts) > 0 {
			i := m.Intn(len(n.Parts))
			n.Parts[i] = m.spoiltPart(n.Parts[i])
		}
	case 6:
		if len(n.Fields) > 0 {
			f := &n.Fields[m.Intn(len(n.Fields))]
			p := m.spoiltPart(api.Part{Plain: f.Plain, Bound: f.Bound, Expr: f.Expr})
			f.Plain, f.Bound, f.Expr = p.Plain, p.Bound, p.Expr
		}
	case 7:
		n.Parts = nil
	}
}

func (m maker) spoiltPart(p api.Part) api.Part {
	switch m.Intn(4) {
	case 0:
		p.Plain = m.pick("", "x", "\xff", x(4096), x(4097))
	case 1:
		p.Bound = !p.Bound
	case 2:
		p.Expr = api.Expr{Op: m.Intn(8), Int: m.Intn(2), Str: m.pick("", "a", "null")}
	case 3:
		p.Expr.Kids = append(slices.Clone(p.Expr.Kids), variable("b"))
	}
	return p
}

func TestP13_2Made(t *testing.T) {
	m := maker{rand.New(rand.NewSource(132))}
	met := map[string]int{}
	for range 60000 {
		ns := m.nodes(m.Intn(4))
		if words := expectAskedPrint(t, ns); len(words) > 0 {
			t.Errorf("%q speak against what was made", words)
		}
		if len(ns) == 0 {
			continue
		}
		bad := copied(ns)
		m.spoil(bad)
		words := expectAskedPrint(t, bad)
		if len(words) == 1 {
			met[words[0]]++
		} else if len(words) == 0 {
			met["nothing"]++
		}
		m.spoil(bad)
		expectAskedPrint(t, bad)
		if t.Failed() {
			return
		}
	}
	for _, word := range []string{"nothing", "kind", "unused", "no parts", "two texts", "tag", "name", "empty part", "two plain parts", "plain", "expression", "plain beside an expression", "expression beside plain"} {
		if met[word] < 50 {
			t.Errorf("the nodes are too much alike: %v", met)
		}
	}
}

// expectBack asks P13.3 of nodes that Print takes and whose text Parse takes.
func expectBack(t *testing.T, ns []api.Node) string {
	t.Helper()
	s, code := Print(ns)
	if code != api.OK {
		t.Errorf("%s: %d", told(answer{nodes: ns}), code)
	}
	back, at, code := Parse(s)
	if at != 0 || code != api.OK || !sameNodes(unplaced(back), unplaced(ns)) {
		t.Errorf("%s: %s, want %s", cut(s), told(answer{back, at, code}), told(answer{nodes: ns}))
	}
	return s
}

func TestP13_3ThereAndBack(t *testing.T) {
	expectBack(t, nil)
	for _, c := range []string{"&", "<", ">", "{", "}", `"`, "'", "{{", "}}", "&amp;", "&lt;", " ", "\n", "\t", "\r", "\x00", "\x7f", "é", "€", "😀", "\ufffd", "/>", "</p>", "=", ":", "\\", "-"} {
		expectBack(t, []api.Node{text(plain(c))})
		expectBack(t, []api.Node{text(bound(variable("a")), plain(c), bound(variable("b"))), with(elem("p", text(plain(c+c))), api.Field{Name: "a", Plain: c}, api.Field{Name: "b", Plain: c + c}), text(plain(c))})
		if c[0] >= ' ' || c == "\n" {
			e := api.Expr{Op: api.EStr, Str: c + c}
			expectBack(t, []api.Node{text(plain(c), bound(e)), with(elem("p"), api.Field{Name: "a", Bound: true, Expr: e})})
		}
	}
	m := maker{rand.New(rand.NewSource(133))}
	for range 20000 {
		if expectBack(t, m.nodes(m.Intn(5))); t.Failed() {
			return
		}
	}
}

// TestP13_3Edges: at the limits there and back still holds, and beyond them it is told why not.
func TestP13_3Edges(t *testing.T) {
	full := []api.Node{text(plain(x(4095)))}
	for len(full) < 31 {
		full = append(full, elem("p"), text(plain(x(4092))))
	}
	if s := expectBack(t, full); len(s) != 65535 {
		t.Fatalf("%d bytes", len(s))
	}
	full[0].Parts[0].Plain += "x"
	if s := expectBack(t, full); len(s) != 65536 {
		t.Fatalf("%d bytes", len(s))
	}
	s, code := Print(append(full, elem("p")))
	if len(s) != 65540 || code != api.OK {
		t.Fatalf("%d bytes, %d", len(s), code)
	}
	expectFault(t, s, api.ErrLexLong, 0)

	deep := variable("a")
	for range 31 {
		deep = op(api.ENeg, deep)
	}
	expectBack(t, []api.Node{text(bound(deep)), with(elem("p"), api.Field{Name: "a", Bound: true, Expr: deep})})
	deep = op(api.ENot, deep)
	s, code = Print([]api.Node{text(plain("x"), bound(deep))})
	if want := "x{{ !" + strings.Repeat("-", 31) + "a }}"; s != want || code != api.OK {
		t.Fatalf("%q, %d", s, code)
	}
	expectFault(t, s, api.ErrSyntaxExpr, 1)

	most := []api.Node{}
	for range 4096 {
		most = append(most, elem("p"), text(plain("x")))
	}
	expectBack(t, most)
}

// TestP13_3OneText: templates that say the same are written as one text, which is written as itself.
func TestP13_3OneText(t *testing.T) {
	for _, row := range [][]string{
		{"<p/>", "<p />", "<p></p>", "<p\n></p >", "<p\t/>"},
		{`<p :a="a &lt; b" b="&quot;"/>`, `<p :a="a<b" b="&quot;"></p>`, `<p  :a=" (a) < (b) "` + "\n" + ` b="&quot;" />`},
		{"&amp;&gt;&lbrace;}{{ a + 1 }}", "&amp;>{}{{a+1}}", "&amp;&gt;{}{{ ( a + 1 ) }}"},
		{`<p a="&lbrace;&lt;'"><q/>{{ !a }}</p>`, `<p a="{<'"><q></q>{{! a}}</p>`},
	} {
		for _, s := range row {
			expectPrinted(t, s, row[0])
		}
	}
	m := maker{rand.New(rand.NewSource(134))}
	others := 0
	for range 10000 {
		ns := m.nodes(m.Intn(4))
		first, second := m.template(ns), m.template(ns)
		want := expectBack(t, ns)
		expectPrinted(t, first, want)
		expectPrinted(t, second, want)
		expectPrinted(t, want, want)
		if first != second {
			others++
		}
		if t.Failed() {
			return
		}
	}
	if others < 3000 {
		t.Errorf("only %d templates were written in two ways", others)
	}
}

// TestP13_3Taken: what Parse answers Print takes, and two templates have one text just if they say the same.
func TestP13_3Taken(t *testing.T) {
	saids, texts := map[string]string{}, map[string]string{}
	for s := range shortTexts(5, "<p>", "</p>", "<p/>", "x", "{{a}}", "{{ ( a ) }}", `<p a="b"/>`, `<p :a="b"/>`, "&gt;", ">") {
		ns, _, code := Parse(s)
		if code != api.OK {
			continue
		}
		printed, said := expectBack(t, ns), fmt.Sprintf("%+v", unplaced(ns))
		if other, ok := saids[printed]; ok && other != said {
			t.Errorf("%q is the text of %s and of %s", printed, other, said)
		}
		if other, ok := texts[said]; ok && other != printed {
			t.Errorf("%s has the texts %q and %q", said, other, printed)
		}
		saids[printed], texts[said] = said, printed
		if t.Failed() {
			return
		}
	}
	if len(texts) < 3000 {
		t.Errorf("only %d were taken", len(texts))
	}
}
