package check

import (
	"fmt"
	"regexp"
	"slices"
	"sort"
	"strings"
	"unicode/utf8"

	"stencil/api"
	"stencil/expr"
	"stencil/syntax"
)

// What the document asks for, said a second time: the template as a flat list, of each node all that speaks against it, by what stands around it; what a use or a slot stands for by functions; the limits over the whole of it, behind.

// answer is what Check tells.
type answer struct {
	cores []api.Core
	at    int
	code  api.Errno
}

func askedCheck(ns []api.Node) answer {
	if _, code := syntax.Print(ns); code != api.OK || belowZero(ns) {
		return answer{code: api.ErrSyntaxTree}
	}
	t := listed(ns)
	for i := range t.all {
		if fs := t.faults(i); len(fs) > 0 {
			return answer{at: fs[0].at, code: fs[0].code}
		}
	}
	m := &making{t: t, left: 6000}
	made := m.nodes(t.body(), env{})
	if f, met := firstLimit(made); met {
		return answer{at: f.at, code: f.code}
	}
	return answer{cores: bare(made)}
}

func belowZero(ns []api.Node) bool {
	return strings.Contains(fmt.Sprintf("%#v", places(ns)), "-")
}

// places are the places of nodes and of their fields.
func places(ns []api.Node) []int {
	var out []int
	for _, n := range ns {
		out = append(out, n.At)
		for _, f := range n.Fields {
			out = append(out, f.At)
		}
		out = append(out, places(n.Kids)...)
	}
	return out
}

// entry is a node in the list, with the numbers of those around and in it.
type entry struct {
	api.Node
	parent int // -1 of the outermost ones
	kids   []int
	row    int // which of the list that it stands in
	behind int // the number behind the last one in it
}

type template struct {
	all  []entry
	tops []int
	head int   // how many of the outermost ones stand ahead of the body
	defs []int // the numbers of the defs
}

func listed(ns []api.Node) *template {
	t := &template{}
	var put func(ns []api.Node, parent int) []int
	put = func(ns []api.Node, parent int) []int {
		var numbers []int
		for row, n := range ns {
			i := len(t.all)
			numbers = append(numbers, i)
			t.all = append(t.all, entry{Node: n, parent: parent, row: row})
			kids := put(n.Kids, i)
			t.all[i].kids, t.all[i].behind = kids, len(t.all)
		}
		return numbers
	}
	t.tops = put(ns, -1)
	var letters []byte
	for _, i := range t.tops {
		switch {
		case t.all[i].Tag == "def":
			letters = append(letters, 'd')
		case t.blank(i):
			letters = append(letters, 'b')
		default:
			letters = append(letters, 'x')
		}
	}
	t.head = len(headText.Find(letters))
	for _, i := range t.tops[:t.head] {
		if t.all[i].Tag == "def" {
			t.defs = append(t.defs, i)
		}
	}
	return t
}

func (t *template) body() []int { return t.tops[t.head:] }

var (
	blankText = regexp.MustCompile(`^[ \t\n\r]+$`)
	between   = regexp.MustCompile(`[^ \t\n\r]+`)
	wordText  = regexp.MustCompile(`^[a-z][a-z0-9_]{0,31}$`)
	tagText   = regexp.MustCompile(`^[a-z][a-z0-9-]{0,31}$`)
	headText  = regexp.MustCompile(`^[bd]*d`)
)

func (t *template) blank(i int) bool {
	n := t.all[i]
	return n.Kind == api.NText && len(n.Parts) == 1 && !n.Parts[0].Bound && blankText.MatchString(n.Parts[0].Plain)
}

// next and last are the first and the last one that is no blank text, or -1.
func (t *template) next(numbers []int) int {
	for _, i := range numbers {
		if !t.blank(i) {
			return i
		}
	}
	return -1
}

func (t *template) last(numbers []int) int {
	for _, i := range slices.Backward(numbers) {
		if !t.blank(i) {
			return i
		}
	}
	return -1
}

func (t *template) solid(numbers []int) []int {
	var out []int
	for _, i := range numbers {
		if !t.blank(i) {
			out = append(out, i)
		}
	}
	return out
}

// defAround is the number of the def that node i lies in, or -1.
func (t *template) defAround(i int) int {
	for _, d := range t.defs {
		if d < i && i < t.all[d].behind {
			return d
		}
	}
	return -1
}

// find is the number of its field of a name, the first, or -1.
func find(n api.Node, name string) int {
	return slices.IndexFunc(n.Fields, func(f api.Field) bool { return f.Name == name })
}

func plainly(n api.Node, name string) string {
	if k := find(n, name); k >= 0 {
		return n.Fields[k].Plain
	}
	return ""
}

func split(s string) []string {
	return between.FindAllString(s, -1)
}

// usedBy is the number of the def that node i is a use of, or -1; waiting tells that it is none, but has the name of a def that does not stand ahead.
func (t *template) usedBy(i int) (def int, waiting bool) {
	def = -1
	if t.all[i].Kind != api.NElem || special(t.all[i].Tag) {
		return -1, false
	}
	for _, d := range t.defs {
		if plainly(t.all[d].Node, "name") != t.all[i].Tag {
			continue
		}
		if t.all[d].behind <= i {
			def = d
		} else {
			waiting = true
		}
	}
	return def, waiting && def < 0
}

func special(tag string) bool {
	return strings.Contains(" if else for def slot fill ", " "+tag+" ")
}

func oneWord(s string) bool {
	return wordText.MatchString(s) && !strings.Contains(" null false true ", " "+s+" ")
}

func oneTag(s string) bool { return tagText.MatchString(s) }

// someWords tells a list of words as props and let are.
func someWords(s string) bool {
	ws := split(s)
	sort.Strings(ws)
	for _, w := range ws {
		if !oneWord(w) {
			return false
		}
	}
	return len(ws) <= 8 && len(slices.Compact(ws)) == len(split(s))
}

// slotsOf are the numbers of a def's slots of a name.
func (t *template) slotsOf(def int, name string) []int {
	var out []int
	for i := def + 1; i < t.all[def].behind; i++ {
		if t.all[i].Tag == "slot" && plainly(t.all[i].Node, "name") == name {
			out = append(out, i)
		}
	}
	return out
}

func boundNames(n api.Node) []string {
	var out []string
	for _, f := range n.Fields {
		if f.Bound {
			out = append(out, f.Name)
		}
	}
	return out
}

// named are the names that may be asked where node i stands; all tells that every one may.
func (t *template) named(i int) (names []string, all bool) {
	for i = t.all[i].parent; i >= 0; i = t.all[i].parent {
		n := t.all[i].Node
		switch n.Tag {
		case "for":
			names = append(names, plainly(n, "each"), plainly(n, "at"))
		case "fill":
			names = append(names, split(plainly(n, "let"))...)
		case "def":
			return append(names, split(plainly(n, "props"))...), false
		}
	}
	return names, true
}

// askedNames are the names in an expression.
func askedNames(e api.Expr) []string {
	if e.Op == api.EVar {
		return []string{e.Str}
	}
	var out []string
	for _, kid := range e.Kids {
		out = append(out, askedNames(kid)...)
	}
	return out
}

// may tells whether an expression at node i asks only what it may, with more names bound.
func (t *template) may(i int, e api.Expr, more ...string) bool {
	names, all := t.named(i)
	names = append(names, more...)
	return all || !slices.ContainsFunc(askedNames(e), func(name string) bool { return !slices.Contains(names, name) })
}

// faults is all that speaks against node i, in the document's row.
func (t *template) faults(i int) []fault {
	n := t.all[i]
	if n.Kind == api.NText {
		for _, p := range n.Parts {
			if p.Bound && !t.may(i, p.Expr) {
				return []fault{{api.ErrCheckName, n.At}}
			}
		}
		return nil
	}
	return slices.Concat(t.faults1(i), t.faults2(i), t.faults3(i), t.faults4(i), t.faults5(i), t.faults6(i))
}

func (t *template) faults1(i int) []fault {
	n := t.all[i]
	_, waiting := t.usedBy(i)
	inUse := false
	siblings := t.tops
	if n.parent >= 0 {
		def, _ := t.usedBy(n.parent)
		inUse = def >= 0
		siblings = t.all[n.parent].kids
	}
	ahead := t.last(siblings[:n.row])
	var code api.Errno
	switch {
	case waiting:
		code = api.ErrCheckUse
	case n.Tag == "def" && !slices.Contains(t.defs, i):
		code = api.ErrCheckDef
	case n.Tag == "else" && (ahead < 0 || t.all[ahead].Tag != "if"):
		code = api.ErrCheckElse
	case n.Tag == "slot" && t.defAround(i) < 0:
		code = api.ErrCheckSlot
	case n.Tag == "fill" && !inUse:
		code = api.ErrCheckFill
	default:
		return nil
	}
	return []fault{{code, n.At}}
}

// kindOf is the table's row of node i.
func (t *template) kindOf(i int) string {
	if special(t.all[i].Tag) {
		return t.all[i].Tag
	}
	if def, _ := t.usedBy(i); def >= 0 {
		return "use"
	}
	return "other"
}

// props are those of the def that node i uses.
func (t *template) props(i int) []string {
	def, _ := t.usedBy(i)
	return split(plainly(t.all[def].Node, "props"))
}

// letIn says whether the table lets a field in; the fields that it names stand with p or b behind them.
func (t *template) letIn(i int, f api.Field) bool {
	word := f.Name + "/p"
	if f.Bound {
		word = f.Name + "/b"
	}
	kind := t.kindOf(i)
	switch kind {
	case "other":
		return true
	case "use":
		return slices.Contains(t.props(i), f.Name)
	case "slot":
		return word == "name/p" || f.Bound && oneWord(f.Name)
	}
	table := map[string]string{"def": "name/p props/p", "if": "test/b", "else": "", "for": "each/p at/p in/b key/b", "fill": "name/p let/p"}
	return slices.Contains(strings.Fields(table[kind]), word)
}

func (t *template) faults2(i int) []fault {
	var out []fault
	n := t.all[i]
	for k, f := range n.Fields {
		if find(n.Node, f.Name) < k {
			out = append(out, fault{api.ErrCheckTwice, f.At})
		}
		if !t.letIn(i, f) {
			code := api.ErrCheckForm
			if t.kindOf(i) == "use" {
				code = api.ErrCheckUse
			}
			out = append(out, fault{code, f.At})
		}
	}
	return out
}

func (t *template) faults3(i int) []fault {
	var out []fault
	n := t.all[i]
	lacks := func(name string, code api.Errno) {
		if find(n.Node, name) < 0 {
			out = append(out, fault{code, n.At})
		}
	}
	switch t.kindOf(i) {
	case "for":
		lacks("key", api.ErrCheckKey)
		lacks("each", api.ErrCheckForm)
		lacks("in", api.ErrCheckForm)
	case "def":
		lacks("name", api.ErrCheckForm)
	case "if":
		lacks("test", api.ErrCheckForm)
	case "use":
		for _, prop := range t.props(i) {
			lacks(prop, api.ErrCheckUse)
		}
	}
	return out
}

// asTold says whether a plain field of node i is as the table says.
func (t *template) asTold(i int, f api.Field) bool {
	switch t.kindOf(i) + " " + f.Name {
	case "def name":
		return oneTag(f.Plain) && !special(f.Plain)
	case "def props", "fill let":
		return someWords(f.Plain)
	case "for each":
		return oneWord(f.Plain)
	case "for at":
		return oneWord(f.Plain) && f.Plain != plainly(t.all[i].Node, "each")
	case "slot name", "fill name":
		return f.Plain == "" || oneTag(f.Plain)
	}
	return true
}

func (t *template) faults4(i int) []fault {
	var out []fault
	n := t.all[i]
	for _, f := range n.Fields {
		var more []string
		if n.Tag == "for" && f.Name == "key" {
			more = []string{plainly(n.Node, "each"), plainly(n.Node, "at")}
		}
		if !f.Bound && !t.asTold(i, f) {
			out = append(out, fault{api.ErrCheckForm, f.At})
		}
		if f.Bound && !t.may(i, f.Expr, more...) {
			out = append(out, fault{api.ErrCheckName, f.At})
		}
	}
	return out
}

func (t *template) faults5(i int) []fault {
	n := t.all[i]
	solid := t.solid(n.kids)
	switch t.kindOf(i) {
	case "def":
		for k, d := range t.defs {
			if d == i && k >= 32 || d < i && plainly(t.all[d].Node, "name") == plainly(n.Node, "name") {
				return []fault{{api.ErrCheckDef, n.At}}
			}
		}
	case "for":
		if len(solid) != 1 || t.all[solid[0]].Kind != api.NElem || t.kindOf(solid[0]) != "other" {
			return []fault{{api.ErrCheckBody, n.At}}
		}
	case "use":
		return t.faultsOfUse(i, solid)
	}
	return nil
}

func (t *template) faultsOfUse(i int, solid []int) []fault {
	var out []fault
	fills := 0
	for _, k := range solid {
		if t.all[k].Tag == "fill" {
			fills++
		} else {
			out = append(out, fault{api.ErrCheckFill, t.all[k].At})
		}
	}
	if fills > 0 {
		return out
	}
	def, _ := t.usedBy(i)
	if len(solid) > 0 && len(t.slotsOf(def, "")) == 0 {
		return []fault{{api.ErrCheckFill, t.all[i].At}}
	}
	return nil
}

func (t *template) faults6(i int) []fault {
	n := t.all[i]
	if n.Tag != "fill" || n.parent < 0 {
		return nil
	}
	def, _ := t.usedBy(n.parent)
	if def < 0 {
		return nil
	}
	var out []fault
	name := plainly(n.Node, "name")
	slots := t.slotsOf(def, name)
	if len(slots) == 0 {
		out = append(out, fault{api.ErrCheckFill, n.At})
	}
	for _, k := range t.all[n.parent].kids {
		if k < i && t.all[k].Tag == "fill" && plainly(t.all[k].Node, "name") == name {
			out = append(out, fault{api.ErrCheckTwice, n.At})
		}
	}
	for _, word := range split(plainly(n.Node, "let")) {
		for _, slot := range slots {
			if !slices.Contains(boundNames(t.all[slot].Node), word) {
				out = append(out, fault{api.ErrCheckFill, n.Fields[find(n.Node, "let")].At})
			}
		}
	}
	return out
}

// made is a core node with the place of the node that it came from.
type made struct {
	core      api.Core
	at        int
	kids, els []made
}

// env is what lies around: names with their places, the last bound last; how many values lie on the stack above the state; what stands for a slot, given its name, the places of its props and the stack.
type env struct {
	names  []string
	places []int
	values int
	fill   func(name string, props []string, values int) ([]made, bool)
}

func (e env) binding(name string, place int) env {
	e.names = append(slices.Clone(e.names), name)
	e.places = append(slices.Clone(e.places), place)
	return e
}

func (e env) over(more int) env {
	e.values += more
	return e
}

// making makes at most so many nodes: more than may be are told too large anyhow.
type making struct {
	t    *template
	left int
}

func (m *making) nodes(numbers []int, e env) []made {
	var out []made
	t := m.t
	for k, i := range numbers {
		if next := t.next(numbers[k:]); next >= 0 && t.all[next].Tag == "else" || m.left == 0 {
			continue
		}
		m.left--
		out = append(out, m.node(i, numbers[k+1:], e))
	}
	return out
}

func (m *making) node(i int, behind []int, e env) made {
	n := m.t.all[i]
	out := made{at: n.At}
	switch m.t.kindOf(i) {
	case "if":
		out.core = api.Core{Kind: api.CIf, Exprs: []api.Expr{e.expr(n.Fields[find(n.Node, "test")])}}
		out.kids = m.nodes(n.kids, e)
		if next := m.t.next(behind); next >= 0 && m.t.all[next].Tag == "else" {
			out.els = m.nodes(m.t.all[next].kids, e)
		}
	case "for":
		inner := e.over(2).binding(plainly(n.Node, "each"), e.values+1).binding(plainly(n.Node, "at"), e.values+2)
		out.core = api.Core{Kind: api.CFor, Exprs: []api.Expr{e.expr(n.Fields[find(n.Node, "in")]), inner.expr(n.Fields[find(n.Node, "key")])}}
		out.kids = m.nodes(m.t.solid(n.kids), inner)
	case "use":
		m.use(&out, i, e)
	case "slot":
		m.slot(&out, i, e)
	default:
		m.other(&out, i, e)
	}
	return out
}

func (m *making) other(out *made, i int, e env) {
	n := m.t.all[i]
	if n.Kind == api.NText {
		out.core.Kind = api.CText
		for _, p := range n.Parts {
			if p.Bound {
				p.Expr = e.expr(api.Field{Bound: true, Expr: p.Expr})
			}
			out.core.Parts = append(out.core.Parts, p)
		}
		return
	}
	out.core.Kind, out.core.Tag = api.CElem, n.Tag
	for _, f := range n.Fields {
		f.At = 0
		if f.Bound {
			f.Expr = e.expr(f)
		}
		out.core.Fields = append(out.core.Fields, f)
	}
	sort.Slice(out.core.Fields, func(a, b int) bool { return out.core.Fields[a].Name < out.core.Fields[b].Name })
	out.kids = m.nodes(n.kids, e)
}

func (m *making) use(out *made, i int, e env) {
	n := m.t.all[i]
	def, _ := m.t.usedBy(i)
	inner := env{values: e.values}
	out.core.Kind = api.CWith
	for _, prop := range m.t.props(i) {
		out.core.Exprs = append(out.core.Exprs, e.expr(n.Fields[find(n.Node, prop)]))
		inner = inner.over(1).binding(prop, inner.values+1)
	}
	inner.fill = func(name string, props []string, values int) ([]made, bool) {
		fills := 0
		for _, k := range n.kids {
			if m.t.all[k].Tag != "fill" {
				continue
			}
			fills++
			if plainly(m.t.all[k].Node, "name") != name {
				continue
			}
			filled := e
			filled.values = values
			for _, word := range split(plainly(m.t.all[k].Node, "let")) {
				filled = filled.binding(word, values-len(props)+slices.Index(props, word)+1)
			}
			return m.nodes(m.t.all[k].kids, filled), true
		}
		if fills > 0 || name != "" || len(m.t.solid(n.kids)) == 0 {
			return nil, false
		}
		filled := e
		filled.values = values
		return m.nodes(n.kids, filled), true
	}
	out.kids = m.nodes(m.t.all[def].kids, inner)
}

func (m *making) slot(out *made, i int, e env) {
	n := m.t.all[i]
	out.core.Kind = api.CWith
	props := boundNames(n.Node)
	for _, prop := range props {
		out.core.Exprs = append(out.core.Exprs, e.expr(n.Fields[find(n.Node, prop)]))
	}
	kids, filled := e.fill(plainly(n.Node, "name"), props, e.values+len(props))
	if !filled {
		kids = m.nodes(n.kids, e.over(len(props)))
	}
	out.kids = kids
}

// expr is what a field says, resolved.
func (e env) expr(f api.Field) api.Expr {
	if !f.Bound {
		return api.Expr{Op: api.EStr, Str: f.Plain}
	}
	var resolved func(one api.Expr) api.Expr
	resolved = func(one api.Expr) api.Expr {
		one.Kids = slices.Clone(one.Kids)
		for k := range one.Kids {
			one.Kids[k] = resolved(one.Kids[k])
		}
		if one.Op != api.EVar {
			return one
		}
		for k := len(e.names) - 1; k >= 0; k-- {
			if e.names[k] == one.Str {
				return place(e.places[k])
			}
		}
		return api.Expr{Op: api.EField, Str: one.Str, Kids: []api.Expr{place(0)}}
	}
	return resolved(f.Expr)
}

func place(i int) api.Expr { return api.Expr{Op: api.EVar, Int: i} }

// firstLimit is the first node that is too much, in preorder.
func firstLimit(ms []made) (fault, bool) {
	pieces := 0
	var look func(ms []made, stack, deep, loops int) (fault, bool)
	look = func(ms []made, stack, deep, loops int) (fault, bool) {
		for _, m := range ms {
			pieces += askedPieces(m.core)
			stack, deep, loops := stack, deep, loops
			switch m.core.Kind {
			case api.CWith:
				stack += len(m.core.Exprs)
			case api.CFor:
				stack += 2
				loops++
			case api.CElem:
				deep++
			}
			switch {
			case pieces > 4096:
				return fault{api.ErrCheckLarge, m.at}, true
			case stack > 64 || deep > 63:
				return fault{api.ErrCheckDeep, m.at}, true
			case loops > 8:
				return fault{api.ErrCheckLoops, m.at}, true
			}
			for _, list := range [][]made{m.kids, m.els} {
				if f, met := look(list, stack, deep, loops); met {
					return f, true
				}
			}
		}
		return fault{}, false
	}
	return look(ms, 1, 0, 0)
}

func askedPieces(c api.Core) int {
	n := 1 + len(c.Exprs) + len(c.Fields) + len(c.Parts)
	for _, e := range allExprs(c) {
		n += exprNodes(e)
	}
	return n
}

func exprNodes(e api.Expr) int {
	n := 1
	for _, kid := range e.Kids {
		n += exprNodes(kid)
	}
	return n
}

// allExprs are the expressions of a core node.
func allExprs(c api.Core) []api.Expr {
	out := slices.Clone(c.Exprs)
	for _, f := range c.Fields {
		if f.Bound {
			out = append(out, f.Expr)
		}
	}
	for _, p := range c.Parts {
		if p.Bound {
			out = append(out, p.Expr)
		}
	}
	return out
}

func bare(ms []made) []api.Core {
	var out []api.Core
	for _, m := range ms {
		m.core.Kids, m.core.Else = bare(m.kids), bare(m.els)
		out = append(out, m.core)
	}
	return out
}

// against is all that speaks against a core by chapter 15, in short words.
func against(cs []api.Core) []string {
	var words []string
	say := func(wrong bool, word string) {
		if wrong {
			words = append(words, word)
		}
	}
	pieces := 0
	var look func(cs []api.Core, stack, deep, loops int)
	look = func(cs []api.Core, stack, deep, loops int) {
		for _, c := range cs {
			pieces += askedPieces(c)
			more := map[int]int{api.CWith: len(c.Exprs), api.CFor: 2}[c.Kind]
			if c.Kind == api.CElem {
				deep++
			}
			if c.Kind == api.CFor {
				loops++
			}
			say(pieces > 4096, "large")
			say(stack+more > 64, "stack")
			say(deep > 63, "deep")
			say(loops > 8, "loops")
			say(c.Kind < 1 || c.Kind > 5, "kind")
			say(c.Kind != api.CText && len(c.Parts) > 0 || c.Kind == api.CText && len(c.Parts) == 0, "parts")
			say(c.Kind != api.CElem && (c.Tag != "" || len(c.Fields) > 0) || c.Kind == api.CElem && !oneTag(c.Tag), "tag")
			say(c.Kind != api.CIf && len(c.Else) > 0, "else")
			say(c.Kind == api.CText && len(c.Kids) > 0, "kids of a text")
			say(c.Kind == api.CFor && (len(c.Kids) != 1 || c.Kids[0].Kind != api.CElem), "body")
			say(c.Kind != api.CWith && len(c.Exprs) != map[int]int{api.CIf: 1, api.CFor: 2}[c.Kind], "exprs")
			for k, f := range c.Fields {
				say(!oneTag(f.Name) || k > 0 && c.Fields[k-1].Name >= f.Name || f.At != 0, "field")
				say(f.Bound && f.Plain != "" || !f.Bound && !sameExpr(f.Expr, api.Expr{}) || len(f.Plain) > 4096 || !utf8.ValidString(f.Plain), "field's value")
			}
			for k, p := range c.Parts {
				say(p.Bound && p.Plain != "" || !p.Bound && (p.Plain == "" || !sameExpr(p.Expr, api.Expr{}) || k > 0 && !c.Parts[k-1].Bound), "part")
			}
			for k, e := range allExprs(c) {
				high := stack
				if c.Kind == api.CFor && k == 1 {
					high += 2
				}
				say(!resolvedIn(e, high), "expression")
				say(exprNodes(e) > 1024, "long expression")
			}
			look(c.Kids, stack+more, deep, loops)
			look(c.Else, stack+more, deep, loops)
			if c.Kind == api.CElem {
				deep--
			}
			if c.Kind == api.CFor {
				loops--
			}
		}
	}
	look(cs, 1, 0, 0)
	return words
}

// resolvedIn tells whether each node of e may be, where so many values lie on the stack.
func resolvedIn(e api.Expr, stack int) bool {
	for _, kid := range e.Kids {
		if !resolvedIn(kid, stack) {
			return false
		}
	}
	alone := e
	alone.Kids = make([]api.Expr, len(e.Kids))
	for k := range alone.Kids {
		alone.Kids[k] = api.Expr{Op: api.ENull}
	}
	switch e.Op {
	case api.EVar:
		return e.Str == "" && 0 <= e.Int && e.Int < stack && len(e.Kids) == 0
	case api.EStr:
		return e.Int == 0 && len(e.Kids) == 0 && len(e.Str) <= 4096 && utf8.ValidString(e.Str)
	}
	_, code := expr.Print(alone)
	return code == api.OK
}

func sameExpr(a, b api.Expr) bool {
	return a.Op == b.Op && a.Int == b.Int && a.Str == b.Str && slices.EqualFunc(a.Kids, b.Kids, sameExpr)
}

func samePart(a, b api.Part) bool {
	return a.Plain == b.Plain && a.Bound == b.Bound && sameExpr(a.Expr, b.Expr)
}

func sameField(a, b api.Field) bool {
	return a.Name == b.Name && a.At == b.At && samePart(api.Part{Plain: a.Plain, Bound: a.Bound, Expr: a.Expr}, api.Part{Plain: b.Plain, Bound: b.Bound, Expr: b.Expr})
}

func sameCore(a, b api.Core) bool {
	return a.Kind == b.Kind && a.Tag == b.Tag && slices.EqualFunc(a.Fields, b.Fields, sameField) && slices.EqualFunc(a.Parts, b.Parts, samePart) && slices.EqualFunc(a.Exprs, b.Exprs, sameExpr) && sameCores(a.Kids, b.Kids) && sameCores(a.Else, b.Else)
}

func sameCores(a, b []api.Core) bool { return slices.EqualFunc(a, b, sameCore) }
