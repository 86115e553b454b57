package check

import (
	"math/rand"
	"slices"
	"strings"
	"testing"

	"stencil/api"
)

// maker makes random templates, most of which may be.
type maker struct {
	*rand.Rand
	defs []*told
	in   *told // the def that is being made; nil in the body
}

// told is what a def says: props of each of its slots, by their names.
type told struct {
	name  string
	props []string
	slots map[string][][]string
}

func newMaker(seed int64) *maker { return &maker{Rand: rand.New(rand.NewSource(seed))} }

func (m *maker) pick(those ...string) string { return those[m.Intn(len(those))] }

func (m *maker) chance(n int) bool { return m.Intn(n) == 0 }

func (m *maker) blank() string { return m.pick("", "", "", " ", "\n", "\t\r\n") }

// some are a few of those, in any row.
func (m *maker) some(those []string) []string {
	out := slices.Clone(those)
	m.Shuffle(len(out), func(i, j int) { out[i], out[j] = out[j], out[i] })
	return out[:m.Intn(len(out)+1)]
}

// template is one with a few defs and a body.
func (m *maker) template() string {
	m.defs = nil
	s := m.blank()
	for range m.Intn(4) {
		d := &told{name: m.pick("a", "b", "c", "x-1", "if-a"), slots: map[string][][]string{}}
		if slices.ContainsFunc(m.defs, func(other *told) bool { return other.name == d.name }) && !m.chance(20) {
			continue
		}
		d.props = m.some([]string{"p", "q", "x", "name"})
		m.in = d
		s += `<def` + m.shuffled(`name="`+d.name+`"`, `props="`+strings.Join(d.props, " ")+m.blank()+`"`) + `>` + m.nodes(3, d.props) + `</def>` + m.blank()
		m.in = nil
		m.defs = append(m.defs, d)
	}
	return s + m.nodes(4, nil)
}

// shuffled are fields in any row.
func (m *maker) shuffled(fields ...string) string {
	m.Shuffle(len(fields), func(i, j int) { fields[i], fields[j] = fields[j], fields[i] })
	s := ""
	for _, f := range fields {
		s += " " + f
	}
	return s
}

// expr asks names of the scope; in the body any.
func (m *maker) expr(scope []string) string {
	name := func() string {
		if len(scope) == 0 && m.in != nil && !m.chance(50) {
			return "1"
		}
		if m.in == nil && m.chance(2) || len(scope) == 0 {
			return m.pick("x", "y", "p", "len", "name")
		}
		return scope[m.Intn(len(scope))]
	}
	switch m.Intn(7) {
	case 0:
		return m.pick("1", "'t'", "null", "true")
	case 1:
		return name() + ".x"
	case 2:
		return name() + " + " + name()
	case 3:
		return name() + " ? " + name() + "[0] : len(" + name() + ")"
	}
	return name()
}

func (m *maker) nodes(deep int, scope []string) string {
	s := ""
	for range m.Intn(4) {
		switch m.Intn(4) {
		case 0:
			s += m.blank()
		case 1:
			s += m.pick("t", " t ", "{{ "+m.expr(scope)+" }}", "u{{ "+m.expr(scope)+" }} {{ "+m.expr(scope)+" }}")
		default:
			if deep > 0 {
				s += m.element(deep-1, scope)
			}
		}
	}
	return s
}

func (m *maker) element(deep int, scope []string) string {
	switch m.Intn(10) {
	case 0, 1:
		s := `<if :test="` + m.expr(scope) + `">` + m.nodes(deep, scope) + `</if>`
		if m.chance(2) {
			s += m.blank() + `<else>` + m.nodes(deep, scope) + `</else>`
		}
		return s
	case 2, 3:
		return m.loop(deep, scope)
	case 4, 5:
		if m.in != nil {
			return m.slot(deep, scope)
		}
	case 6, 7, 8:
		if len(m.defs) > 0 {
			return m.use(deep, scope, m.defs[m.Intn(len(m.defs))])
		}
	}
	return m.plain(scope, m.nodes(deep, scope))
}

func (m *maker) plain(scope []string, in string) string {
	var fields []string
	for _, name := range m.some([]string{"id", "class", "a-b", "name", "let"}) {
		if m.chance(2) {
			fields = append(fields, `:`+name+`="`+m.expr(scope)+`"`)
		} else {
			fields = append(fields, name+`="`+m.pick("", "v", " ", "A")+`"`)
		}
	}
	tag := m.pick("p", "b-1", "i", "form", "slots")
	return `<` + tag + m.shuffled(fields...) + `>` + in + `</` + tag + `>`
}

func (m *maker) loop(deep int, scope []string) string {
	names := []string{m.pick("x", "y", "p"), m.pick("i", "y", "z")}
	if names[0] == names[1] && !m.chance(30) {
		names[1] = "i"
	}
	fields := []string{`each="` + names[0] + `"`, `:in="` + m.expr(scope) + `"`}
	if m.chance(2) {
		fields = append(fields, `at="`+names[1]+`"`)
	} else {
		names = names[:1]
	}
	inner := append(slices.Clone(scope), names...)
	fields = append(fields, `:key="`+m.expr(inner)+`"`)
	return `<for` + m.shuffled(fields...) + `>` + m.blank() + m.plain(inner, m.nodes(deep, inner)) + m.blank() + `</for>`
}

func (m *maker) slot(deep int, scope []string) string {
	name := m.pick("", "", "n", "m-1")
	var fields []string
	if name != "" || m.chance(3) {
		fields = append(fields, `name="`+name+`"`)
	}
	props := m.some([]string{"u", "v", "x"})
	for _, prop := range props {
		fields = append(fields, `:`+prop+`="`+m.expr(scope)+`"`)
	}
	m.in.slots[name] = append(m.in.slots[name], props)
	return `<slot` + m.shuffled(fields...) + `>` + m.nodes(deep, scope) + `</slot>`
}

func (m *maker) use(deep int, scope []string, d *told) string {
	var fields []string
	for _, prop := range d.props {
		if m.chance(2) {
			fields = append(fields, `:`+prop+`="`+m.expr(scope)+`"`)
		} else {
			fields = append(fields, prop+`="`+m.pick("", "v", "&lt;", "\t")+`"`)
		}
	}
	s := `<` + d.name + m.shuffled(fields...) + `>` + m.blank()
	switch {
	case m.chance(2):
		for _, name := range m.some([]string{"", "n", "m-1"}) {
			if slots, ok := d.slots[name]; ok || m.chance(30) {
				s += m.fill(deep, scope, name, slots) + m.blank()
			}
		}
	case d.slots[""] != nil || m.chance(30):
		s += m.nodes(deep, scope)
	}
	return s + `</` + d.name + `>`
}

func (m *maker) fill(deep int, scope []string, name string, slots [][]string) string {
	var common []string
	for _, word := range []string{"u", "v", "x"} {
		if !slices.ContainsFunc(slots, func(props []string) bool { return !slices.Contains(props, word) }) {
			common = append(common, word)
		}
	}
	let := m.some(common)
	if m.chance(30) {
		let = m.some([]string{"u", "v", "x", "name"})
	}
	var fields []string
	if name != "" || m.chance(2) {
		fields = append(fields, `name="`+name+`"`)
	}
	if len(let) > 0 || m.chance(3) {
		fields = append(fields, `let="`+strings.Join(let, m.pick(" ", "\n "))+`"`)
	}
	return `<fill` + m.shuffled(fields...) + `>` + m.nodes(deep, append(slices.Clone(scope), let...)) + `</fill>`
}

// TestP14Random: random templates that may be, most of them, have the core that is asked for.
func TestP14Random(t *testing.T) {
	t.Parallel()
	codes := map[api.Errno]int{}
	kinds := map[int]int{}
	m := newMaker(141)
	for range 12000 {
		want := expectAsked(t, read(m.template()))
		codes[want.code]++
		countKinds(want.cores, kinds)
	}
	if codes[api.OK] < 8000 {
		t.Errorf("few are taken: %v", codes)
	}
	for kind := api.CText; kind <= api.CWith; kind++ {
		if kinds[kind] < 3000 {
			t.Errorf("few of kind %d: %v", kind, kinds)
		}
	}
}

func countKinds(cs []api.Core, kinds map[int]int) {
	for _, c := range cs {
		kinds[c.Kind]++
		countKinds(c.Kids, kinds)
		countKinds(c.Else, kinds)
	}
}

// every is pointers to all nodes, in preorder.
func every(ns []api.Node) []*api.Node {
	var out []*api.Node
	for i := range ns {
		out = append(out, &ns[i])
		out = append(out, every(ns[i].Kids)...)
	}
	return out
}

// renumber gives each node and field a place of its own, in no row.
func (m *maker) renumber(ns []api.Node) {
	next := m.Perm(len(places(ns)))
	for _, n := range every(ns) {
		n.At, next = next[0], next[1:]
		for i := range n.Fields {
			n.Fields[i].At, next = next[0], next[1:]
		}
	}
}

// spoil changes one thing of nodes, which are the template's own.
func (m *maker) spoil(ns []api.Node) []api.Node {
	all := every(ns)
	if len(all) == 0 {
		return ns
	}
	n := all[m.Intn(len(all))]
	other := own([]api.Node{*all[m.Intn(len(all))]})[0]
	switch m.Intn(8) {
	case 0:
		if n.Kind == api.NElem {
			n.Tag = m.pick("if", "else", "for", "def", "slot", "fill", "p", "a", "b", "c", "x-1")
		}
	case 1, 6, 7:
		m.spoilFields(n)
	case 2:
		if at := m.Intn(len(n.Kids) + 1); n.Kind == api.NElem {
			n.Kids = slices.Insert(slices.Clone(n.Kids), at, other)
		}
	case 3:
		if len(n.Kids) > 0 {
			at := m.Intn(len(n.Kids))
			n.Kids = slices.Delete(slices.Clone(n.Kids), at, at+1)
		}
	case 4:
		at := m.Intn(len(ns) + 1)
		return slices.Insert(slices.Clone(ns), at, other)
	case 5:
		at := m.Intn(len(ns))
		return slices.Delete(slices.Clone(ns), at, at+1)
	}
	return ns
}

func (m *maker) spoilFields(n *api.Node) {
	n.Fields = slices.Clone(n.Fields)
	if n.Kind != api.NElem {
		return
	}
	fresh := api.Field{Name: m.pick("name", "props", "test", "each", "at", "in", "key", "let", "p", "u", "a-b", "null"), Plain: m.pick("", "x", "x y", "p p", "A", "null", "n", " ", "a b c d e f g h i")}
	if m.chance(2) {
		fresh.Plain, fresh.Bound, fresh.Expr = "", true, api.Expr{Op: api.EVar, Str: m.pick("x", "p", "zz")}
	}
	if len(n.Fields) == 0 || m.chance(3) {
		n.Fields = slices.Insert(n.Fields, m.Intn(len(n.Fields)+1), fresh)
		return
	}
	i := m.Intn(len(n.Fields))
	switch m.Intn(4) {
	case 0:
		n.Fields = slices.Delete(n.Fields, i, i+1)
	case 1:
		n.Fields = append(n.Fields, n.Fields[i])
	case 2:
		n.Fields[i].Name = fresh.Name
	case 3:
		n.Fields[i] = api.Field{Name: n.Fields[i].Name, Plain: fresh.Plain, Bound: fresh.Bound, Expr: fresh.Expr}
	}
}

// own is a copy of nodes that shares no list with them.
func own(ns []api.Node) []api.Node {
	out := slices.Clone(ns)
	for i := range out {
		out[i].Fields = slices.Clone(out[i].Fields)
		out[i].Kids = own(out[i].Kids)
	}
	return out
}

// TestP14RandomSpoilt: templates with one to three changes have the fault that is asked for, and its place.
func TestP14RandomSpoilt(t *testing.T) {
	t.Parallel()
	codes := map[api.Errno]int{}
	m := newMaker(142)
	for range 30000 {
		ns := read(m.template())
		for range 1 + m.Intn(3) {
			ns = m.spoil(ns)
		}
		m.renumber(ns)
		codes[expectAsked(t, ns).code]++
	}
	for code := api.ErrCheckForm; code <= api.ErrCheckTwice; code++ {
		if codes[code] < 25 {
			t.Errorf("few of %d: %v", code, codes)
		}
	}
	if codes[api.OK] < 3000 || codes[api.ErrSyntaxTree] < 100 {
		t.Errorf("%v", codes)
	}
}

// TestP14RandomLarge: templates whose defs grow by one another meet the limits.
func TestP14RandomLarge(t *testing.T) {
	t.Parallel()
	codes := map[api.Errno]int{}
	m := newMaker(143)
	for range 500 {
		s, ahead := "", ""
		for i := range 2 + m.Intn(6) {
			name := string(rune('a' + i))
			s += `<def name="` + name + `" props="o p">` + m.grown("<slot/>", ahead) + `</def>`
			ahead += name
		}
		codes[expectAsked(t, read(s+m.grown("x", ahead))).code]++
	}
	for _, code := range []api.Errno{api.OK, api.ErrCheckLarge, api.ErrCheckDeep, api.ErrCheckLoops} {
		if codes[code] < 25 {
			t.Errorf("few of %d: %v", code, codes)
		}
	}
}

// grown puts s into a few elements, loops and uses of the defs that stand ahead, or doubles it.
func (m *maker) grown(s, ahead string) string {
	for range 2 + m.Intn(4) {
		switch m.Intn(7) {
		case 0:
			s = `<for each="x" :in="1" :key="x"><p>` + s + `</p></for>`
		case 1:
			s = nest(1+m.Intn(5), s)
		case 2:
			s = `<p>` + s + s + `</p>`
		default:
			if ahead != "" {
				name := ahead[len(ahead)-1-m.Intn(min(2, len(ahead))):][:1]
				s = `<` + name + ` o="" p="">` + s + `</` + name + `>`
			}
		}
	}
	return s
}
