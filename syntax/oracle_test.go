package syntax

import (
	"fmt"
	"math/rand"
	"slices"
	"strings"
	"unicode/utf8"

	"stencil/api"
	"stencil/expr"
	"stencil/html"
	"stencil/lex"
)

// What the document asks for, said a second time: of each token, by what stands ahead of it, whether it is a fault; the nodes by recursion; of nodes, whatever speaks against them.

// answer is what Parse tells.
type answer struct {
	nodes []api.Node
	at    int
	code  api.Errno
}

func failed(at int, code api.Errno) answer { return answer{at: at, code: code} }

func ofText(kind int) bool { return kind == api.TokText || kind == api.TokExpr }

func askedParse(s string) answer {
	ts, at, code := lex.Lex(s)
	if code != api.OK {
		return failed(at, code)
	}
	nodes, depth := 0, 0
	for i, one := range ts {
		if begins(ts, i) {
			nodes++
		}
		if code := askedFault(ts, i, nodes, depth); code != api.OK {
			return failed(one.At, code)
		}
		switch one.Kind {
		case api.TokOpen:
			depth++
		case api.TokSelf, api.TokClose:
			depth--
		}
	}
	if opener := openAhead(ts, len(ts)); opener >= 0 {
		return failed(ts[opener].At, api.ErrSyntaxTag)
	}
	ns, _ := askedNodes(ts)
	return answer{nodes: ns}
}

// begins tells whether a node begins with token i.
func begins(ts []api.Token, i int) bool {
	return ts[i].Kind == api.TokOpen || ofText(ts[i].Kind) && (i == 0 || !ofText(ts[i-1].Kind))
}

// askedFault is what is wrong with token i, so many nodes having begun with it or ahead of it, so many elements being open ahead of it.
func askedFault(ts []api.Token, i, nodes, depth int) api.Errno {
	one := ts[i]
	if begins(ts, i) && nodes > 8192 {
		return api.ErrSyntaxLarge
	}
	if one.Kind == api.TokOpen && depth+1 > 32 {
		return api.ErrSyntaxDeep
	}
	if one.Kind == api.TokExpr || one.Kind == api.TokBound {
		if _, _, code := expr.Parse(one.Text); code != api.OK {
			return api.ErrSyntaxExpr
		}
	}
	if one.Kind == api.TokClose {
		if opener := openAhead(ts, i); opener < 0 || ts[opener].Name != one.Name {
			return api.ErrSyntaxTag
		}
	}
	return api.OK
}

// openAhead is the innermost opening tag ahead of token i that is not closed there, or -1.
func openAhead(ts []api.Token, i int) int {
	closed := 0
	for i--; i >= 0; i-- {
		switch ts[i].Kind {
		case api.TokSelf, api.TokClose:
			closed++
		case api.TokOpen:
			if closed == 0 {
				return i
			}
			closed--
		}
	}
	return -1
}

// askedNodes is the nodes of tokens without a fault, up to a closing tag or the end, and what is left.
func askedNodes(ts []api.Token) ([]api.Node, []api.Token) {
	var ns []api.Node
	for len(ts) > 0 && ts[0].Kind != api.TokClose {
		var n api.Node
		if ts[0].Kind == api.TokOpen {
			n, ts = askedElement(ts)
		} else {
			n, ts = askedRun(ts)
		}
		ns = append(ns, n)
	}
	return ns, ts
}

func askedRun(ts []api.Token) (api.Node, []api.Token) {
	n := api.Node{Kind: api.NText, At: ts[0].At}
	for ; len(ts) > 0 && ofText(ts[0].Kind); ts = ts[1:] {
		if ts[0].Kind == api.TokText {
			n.Parts = append(n.Parts, api.Part{Plain: ts[0].Text})
		} else {
			n.Parts = append(n.Parts, api.Part{Bound: true, Expr: read(ts[0].Text)})
		}
	}
	return n, ts
}

func askedElement(ts []api.Token) (api.Node, []api.Token) {
	n := api.Node{Kind: api.NElem, Tag: ts[0].Name, At: ts[0].At}
	for ts = ts[1:]; ; ts = ts[1:] {
		switch one := ts[0]; one.Kind {
		case api.TokAttr:
			n.Fields = append(n.Fields, api.Field{Name: one.Name, Plain: one.Text, At: one.At})
		case api.TokBound:
			n.Fields = append(n.Fields, api.Field{Name: one.Name, Bound: true, Expr: read(one.Text), At: one.At})
		case api.TokSelf:
			return n, ts[1:]
		case api.TokEnd:
			n.Kids, ts = askedNodes(ts[1:])
			return n, ts[1:]
		}
	}
}

// read is the expression of a text that says one.
func read(s string) api.Expr {
	e, at, code := expr.Parse(s)
	if code != api.OK {
		panic(fmt.Sprintf("%q: %d at %d", s, code, at))
	}
	return e
}

// askedText is the text of nodes that may be.
func askedText(ns []api.Node) string {
	s := ""
	for _, n := range ns {
		for _, part := range n.Parts {
			if part.Bound {
				s += fmt.Sprintf("{{ %s }}", askedExpr(part.Expr))
			} else {
				s += html.Text(part.Plain)
			}
		}
		if n.Kind == api.NText {
			continue
		}
		s += "<" + n.Tag
		for _, f := range n.Fields {
			if f.Bound {
				s += fmt.Sprintf(` :%s="%s"`, f.Name, html.Attr(askedExpr(f.Expr)))
			} else {
				s += fmt.Sprintf(` %s="%s"`, f.Name, html.Attr(f.Plain))
			}
		}
		if len(n.Kids) == 0 {
			s += "/>"
		} else {
			s += fmt.Sprintf(">%s</%s>", askedText(n.Kids), n.Tag)
		}
	}
	return s
}

func askedExpr(e api.Expr) string {
	s, _ := expr.Print(e)
	return s
}

// against is all that speaks against nodes, in short words; of more nodes than may be, those behind are not looked at.
func against(ns []api.Node) []string {
	var words []string
	count := 0
	var look func(ns []api.Node, around int)
	look = func(ns []api.Node, around int) {
		for i, n := range ns {
			if count++; count > 8192 {
				words = append(words, "many")
				return
			}
			if i > 0 && n.Kind == api.NText && ns[i-1].Kind == api.NText {
				words = append(words, "two texts")
			}
			words = append(words, againstNode(n)...)
			if n.Kind == api.NElem && around+1 > 32 {
				words = append(words, "deep")
			}
			look(n.Kids, around+1)
		}
	}
	look(ns, 0)
	return words
}

func againstNode(n api.Node) []string {
	var words []string
	say := func(wrong bool, word string) {
		if wrong {
			words = append(words, word)
		}
	}
	say(n.Kind != 1 && n.Kind != 2, "kind")
	say(n.Kind == 1 && (n.Tag != "" || len(n.Fields) > 0 || len(n.Kids) > 0), "unused")
	say(n.Kind == 2 && len(n.Parts) > 0, "unused")
	say(n.Kind == 1 && len(n.Parts) == 0, "no parts")
	say(n.Kind == 2 && !isTag(n.Tag), "tag")
	for i, p := range n.Parts {
		say(!p.Bound && p.Plain == "", "empty part")
		say(i > 0 && !p.Bound && !n.Parts[i-1].Bound, "two plain parts")
		words = append(words, againstContent(p)...)
	}
	for _, f := range n.Fields {
		say(!isTag(f.Name), "name")
		words = append(words, againstContent(api.Part{Plain: f.Plain, Bound: f.Bound, Expr: f.Expr})...)
	}
	return words
}

func againstContent(p api.Part) []string {
	switch _, code := expr.Print(p.Expr); {
	case p.Bound && code != api.OK:
		return []string{"expression"}
	case p.Bound && p.Plain != "":
		return []string{"plain beside an expression"}
	case p.Bound:
		return nil
	case !sameExpr(p.Expr, api.Expr{}):
		return []string{"expression beside plain"}
	case len(p.Plain) > 4096 || !utf8.ValidString(p.Plain):
		return []string{"plain"}
	}
	return nil
}

func isTag(s string) bool {
	const letters, others = "abcdefghijklmnopqrstuvwxyz", "0123456789-"
	return s != "" && len(s) <= 32 && strings.Trim(s, letters+others) == "" && strings.Contains(letters, s[:1])
}

func sameExpr(a, b api.Expr) bool {
	return a.Op == b.Op && a.Int == b.Int && a.Str == b.Str && slices.EqualFunc(a.Kids, b.Kids, sameExpr)
}

func samePart(a, b api.Part) bool {
	return a.Plain == b.Plain && a.Bound == b.Bound && sameExpr(a.Expr, b.Expr)
}

func sameField(a, b api.Field) bool {
	return a.Name == b.Name && a.Plain == b.Plain && a.Bound == b.Bound && sameExpr(a.Expr, b.Expr) && a.At == b.At
}

func sameNode(a, b api.Node) bool {
	return a.Kind == b.Kind && a.Tag == b.Tag && a.At == b.At && slices.EqualFunc(a.Fields, b.Fields, sameField) && slices.EqualFunc(a.Parts, b.Parts, samePart) && sameNodes(a.Kids, b.Kids)
}

func sameNodes(a, b []api.Node) bool { return slices.EqualFunc(a, b, sameNode) }

// unplaced is a copy of nodes whose places are 0.
func unplaced(ns []api.Node) []api.Node {
	out := slices.Clone(ns)
	for i := range out {
		out[i].At = 0
		out[i].Fields = slices.Clone(out[i].Fields)
		for j := range out[i].Fields {
			out[i].Fields[j].At = 0
		}
		out[i].Kids = unplaced(out[i].Kids)
	}
	return out
}

// count is how many nodes there are.
func count(ns []api.Node) int {
	all := len(ns)
	for _, n := range ns {
		all += count(n.Kids)
	}
	return all
}

// variable, and what is made of it.
func variable(s string) api.Expr { return api.Expr{Op: api.EVar, Str: s} }

func op(number int, kids ...api.Expr) api.Expr { return api.Expr{Op: number, Kids: kids} }

func plain(s string) api.Part { return api.Part{Plain: s} }

func bound(e api.Expr) api.Part { return api.Part{Bound: true, Expr: e} }

func text(parts ...api.Part) api.Node { return api.Node{Kind: api.NText, Parts: parts} }

func elem(tag string, kids ...api.Node) api.Node {
	return api.Node{Kind: api.NElem, Tag: tag, Kids: kids}
}

func with(n api.Node, fields ...api.Field) api.Node {
	n.Fields = fields
	return n
}

// at is a node with its place, and those of its fields.
func at(place int, n api.Node, fields ...int) api.Node {
	n.At = place
	for i, one := range fields {
		n.Fields[i].At = one
	}
	return n
}

// maker makes random nodes, and templates that say them.
type maker struct{ *rand.Rand }

func (m maker) pick(those ...string) string { return those[m.Intn(len(those))] }

func (m maker) name() string {
	return m.pick("p", "a", "b", "br", "x-1", "h1", "a--9", "if", "each", strings.Repeat("n", 32))
}

func (m maker) plain() string {
	s := m.pick("a", "b c", "é", " ", "\n", "}}", "&", "<", ">", "{", `"`, "\x00", "&amp;", "{{")
	for m.Intn(3) > 0 {
		s += m.pick("a", "\x7f", "€", "😀", "\ufffd", "\t", "}", "'", "/", ";", "&", "<", ">", "{", `"`)
	}
	return s
}

func (m maker) expr() api.Expr {
	return read(m.pick("a", "b.c", "x + 1", "'}'", "'\\}\\}'", "'\"'", "'&lt;'", "'\\n'", "len(a)", "a < b", "a && b", "!(a || b)", "-a * -b", "a ? b : c", "a[0][1].d", "null", "a ~ 'é'", "'{{' ~ b", "(a - b) - (c - d)", "9223372036854775807", "''"))
}

// nodes are such as may be, at most so many elements deep.
func (m maker) nodes(deep int) []api.Node {
	var ns []api.Node
	for n := m.Intn(5); n > 0; n-- {
		ahead := len(ns) > 0 && ns[len(ns)-1].Kind == api.NText
		if m.Intn(2) == 0 && !ahead {
			ns = append(ns, m.text())
		} else if deep > 0 {
			ns = append(ns, m.element(deep))
		}
	}
	return ns
}

func (m maker) text() api.Node {
	n := api.Node{Kind: api.NText}
	for len(n.Parts) == 0 || m.Intn(2) == 0 {
		if m.Intn(2) == 0 {
			n.Parts = append(n.Parts, bound(m.expr()))
		} else if i := len(n.Parts); i == 0 || n.Parts[i-1].Bound {
			n.Parts = append(n.Parts, plain(m.plain()))
		}
	}
	return n
}

func (m maker) element(deep int) api.Node {
	n := api.Node{Kind: api.NElem, Tag: m.name(), Kids: m.nodes(deep - 1)}
	for m.Intn(2) == 0 {
		f := api.Field{Name: m.name()}
		switch m.Intn(3) {
		case 0:
			f.Plain = m.plain()
		case 1:
			f.Bound, f.Expr = true, m.expr()
		}
		n.Fields = append(n.Fields, f)
	}
	return n
}

func (m maker) blank() string { return m.pick("", "", "", " ", "\n", "\t\r", "  ") }

// template is one of the texts that say the nodes; it tells the nodes their places.
func (m maker) template(ns []api.Node) string {
	var out strings.Builder
	m.write(&out, ns)
	return out.String()
}

func (m maker) write(out *strings.Builder, ns []api.Node) {
	for i := range ns {
		n := &ns[i]
		n.At = out.Len()
		if n.Kind == api.NText {
			m.writeParts(out, n.Parts)
			continue
		}
		out.WriteString("<" + n.Tag)
		for j := range n.Fields {
			m.writeField(out, &n.Fields[j])
		}
		if len(n.Kids) == 0 && m.Intn(2) == 0 {
			out.WriteString(m.blank() + "/>")
			continue
		}
		out.WriteString(m.blank() + ">")
		m.write(out, n.Kids)
		out.WriteString("</" + n.Tag + m.blank() + ">")
	}
}

func (m maker) writeParts(out *strings.Builder, parts []api.Part) {
	for _, p := range parts {
		if p.Bound {
			out.WriteString("{{" + m.loose(p.Expr) + "}}")
		} else {
			out.WriteString(m.escaped(p.Plain, "&<{"))
		}
	}
}

func (m maker) writeField(out *strings.Builder, f *api.Field) {
	out.WriteString(m.blank() + m.pick(" ", "\n", "\t", "\r"))
	f.At = out.Len()
	if f.Bound {
		out.WriteString(":" + f.Name + `="` + m.escaped(m.loose(f.Expr), `&"`) + `"`)
	} else {
		out.WriteString(f.Name + `="` + m.escaped(f.Plain, `&"`) + `"`)
	}
}

// loose is an expression with more blanks and parentheses than it must have, or with none of the blanks.
func (m maker) loose(e api.Expr) string {
	s := askedExpr(e)
	if !strings.Contains(s, "'") && m.Intn(3) == 0 {
		s = strings.ReplaceAll(s, " ", "")
	}
	if m.Intn(3) == 0 {
		s = "(" + m.blank() + s + m.blank() + ")"
	}
	return m.blank() + s + m.blank()
}

// escaped writes s with entities where it must, else here and there.
func (m maker) escaped(s, must string) string {
	out := ""
	for _, c := range []byte(s) {
		one := string([]byte{c})
		i := strings.IndexByte(`&<>{"`, c)
		if i >= 0 && (strings.Contains(must, one) || m.Intn(3) == 0) {
			one = []string{"&amp;", "&lt;", "&gt;", "&lbrace;", "&quot;"}[i]
		}
		out += one
	}
	return out
}

// spoilt is s with one change somewhere.
func (m maker) spoilt(s string) string {
	at := m.Intn(len(s) + 1)
	behind := min(len(s), at+m.Intn(5))
	switch m.Intn(5) {
	case 0:
		return s[:at]
	case 1:
		return s[:at] + s[behind:]
	case 2:
		return s[:at] + s[at:behind] + s[at:]
	case 3:
		return s[:at] + string([]byte{byte(m.Intn(256))}) + s[behind:]
	}
	return s[:at] + m.pick("<p>", "</p>", "<a>", "</a>", "<br/>", "{{a}}", "{{}}", "{{ a b }}", "{{a", "}}", `"`, ` :a="1"`, ` :a=""`, ` a=""`, "&", "+", "(", ")", "x", "'") + s[behind:]
}
