package session

import (
	"fmt"
	"math/rand"
	"slices"
	"strconv"
	"strings"
	"testing"

	"stencil/api"
)

// maker makes states, and templates that fit them, but for off in a hundred of what they ask for.
type maker struct {
	*rand.Rand
	off  int
	defs []*component
	in   *component // the def that is being made; nil in the body
}

// component is what a def says: its props, and those of its slots by their names.
type component struct {
	name  string
	props []named
	slots map[string][]named
}

// named is a word with what is bound by it: a record (r), or a value that has a text (s).
type named struct {
	word string
	kind byte
}

func newMaker(seed int64) *maker { return &maker{Rand: rand.New(rand.NewSource(seed))} }

func (m *maker) chance(n int) bool { return m.Intn(n) == 0 }

func (m *maker) word(those ...string) string { return those[m.Intn(len(those))] }

// either is the one that fits, but for off in a hundred.
func (m *maker) either(fits string, others ...string) string {
	if m.Intn(100) < m.off {
		return m.word(others...)
	}
	return fits
}

// record has a bool b, values v and w, a key k, always the same for a number, and lists l and m of records, while there is room.
func (m *maker) record(room, number int) string {
	key := strconv.Itoa(number / 2)
	if number%2 == 1 {
		key = `"k` + key + `"`
	}
	return fmt.Sprintf(`{"b": %v, "v": %s, "w": %s, "k": %s, "l": %s, "m": %s}`, m.chance(2), m.either(m.word(`"x"`, `null`, `7`, `"7"`, `true`, `"é<\u0022{"`), `[]`), m.word(`0`, `0`, `""`), m.either(key, `null`, `0`), m.records(room), m.records(room))
}

func (m *maker) records(room int) string {
	var out []string
	if room > 0 {
		for _, number := range m.Perm(5)[:min(m.Intn(9), 5)] {
			out = append(out, m.record(room-1, number))
		}
	}
	return "[" + strings.Join(out, ", ") + "]"
}

// state is one for a session: in a few cases bytes that are no value, or another value.
func (m *maker) state(room int) string {
	s := m.record(room, 0)
	switch m.Intn(30) {
	case 0:
		return s[:m.Intn(len(s))]
	case 1:
		return s + m.word("}", " 1", "\x00", ",")
	case 2:
		return m.word("null", "7", `"x"`, "[]", "{}", `{"b": true, "b": 1}`, "-0", strings.Repeat("[", 30))
	}
	return s
}

// blank is one of those that stand between a tag's attributes, or none.
func (m *maker) blank() string { return m.word("", "", "", " ", "\n", "\t\r\n") }

// gap is one where one is left out.
func (m *maker) gap() string { return m.word("", "", " ", "\n\t") }

// find is a word of that kind; in the body the state may be meant, which has none.
func (m *maker) find(scope []named, kind byte) (string, bool) {
	var those []string
	for _, one := range scope {
		if one.kind == kind {
			those = append(those, one.word)
		}
	}
	if kind == 'r' && m.in == nil && (len(those) == 0 || m.chance(3)) {
		return "", true
	}
	if len(those) == 0 {
		return "", false
	}
	return m.word(those...), true
}

// field is a field of a record; where there is no record, another text.
func (m *maker) field(scope []named, other, fits string, others ...string) string {
	if len(others) > 0 {
		fits = m.either(fits, others...)
	}
	r, ok := m.find(scope, 'r')
	switch {
	case !ok:
		return other
	case r == "":
		return fits
	case m.chance(5):
		return r + "['" + fits + "']"
	}
	return r + "." + fits
}

// test comes to a bool.
func (m *maker) test(scope []named) string {
	b := m.field(scope, "true", "b", "v", "z")
	switch m.Intn(8) {
	case 0:
		return b + " &amp;&amp; " + m.field(scope, "false", "b", "w")
	case 1:
		return "!" + b + "||" + m.field(scope, "1 &lt; 2", "b", "w")
	case 2:
		return b + " ? len(" + m.field(scope, "'x'", "l") + ") &gt; 1 : " + m.field(scope, "false", "b")
	}
	return b
}

// shown is what has a text.
func (m *maker) shown(scope []named) string {
	s, ok := m.find(scope, 's')
	if !ok || m.chance(2) {
		s = m.field(scope, "'c'", m.word("v", "w", "k", "b"), "l", "z")
	}
	switch m.Intn(9) {
	case 0:
		return m.test(scope) + " ? " + s + " : 'n'"
	case 1:
		return "'t'~" + s
	case 2:
		return m.either(m.word("7", "'c'", "null"), "1 / 0", "9223372036854775807 + 1")
	}
	return s
}

// template is a random one that may be, but for a few, and not long.
func (m *maker) template(deep int) string {
	for {
		if s := m.anyTemplate(deep); len(s) < 4000 {
			return s
		}
	}
}

func (m *maker) anyTemplate(deep int) string {
	m.defs, m.in = nil, nil
	s := m.blank()
	for range m.Intn(4) {
		d := &component{name: "d-" + strconv.Itoa(len(m.defs)), slots: map[string][]named{}}
		for _, word := range []string{"p", "q", "name"}[:m.Intn(4)] {
			d.props = append(d.props, named{word, m.word("r", "s")[0]})
		}
		m.in = d
		s += `<def` + m.fields(`name="`+d.name+`"`, `props="`+words(d.props)+`"`) + `>` + m.nodes(deep, d.props) + `</def>` + m.blank()
		m.in, m.defs = nil, append(m.defs, d)
	}
	return s + m.nodes(deep, nil)
}

func words(those []named) string {
	var out []string
	for _, one := range those {
		out = append(out, one.word)
	}
	return strings.Join(out, " ")
}

// fields are those, in any row.
func (m *maker) fields(those ...string) string {
	m.Shuffle(len(those), func(i, j int) { those[i], those[j] = those[j], those[i] })
	s := ""
	for _, one := range those {
		s += m.word(" ", " ", "\n") + one
	}
	return s + m.word("", "", " ")
}

func (m *maker) nodes(deep int, scope []named) string {
	s := ""
	for count := 0; deep > 0 && !m.chance(5) && count < 6; count++ {
		s += m.node(deep-1, scope)
	}
	return s
}

func (m *maker) node(deep int, scope []named) string {
	switch m.Intn(13) {
	case 0:
		return m.word("x", "é", " ", "&amp;", "}}")
	case 1, 2:
		return m.word("", "y") + "{{ " + unescaped(m.shown(scope)) + " }}" + m.word("", " ", "{{ "+unescaped(m.shown(scope))+" }}")
	case 3:
		return m.still(2)
	case 4, 5:
		return m.element(m.nodes(deep, scope), scope)
	case 6, 7:
		s := `<if :test="` + m.test(scope) + `">` + m.nodes(deep, scope) + `</if>`
		if m.chance(2) {
			s += m.gap() + `<else>` + m.nodes(deep, scope) + `</else>`
		}
		return s
	case 8, 9:
		return m.loop(deep, scope)
	case 10:
		if m.in != nil {
			return m.slot(deep, scope)
		}
	}
	if len(m.defs) > 0 {
		return m.use(deep, scope, m.defs[m.Intn(len(m.defs))])
	}
	return m.element(m.nodes(deep, scope), scope)
}

// unescaped is an expression as it is written between braces.
func unescaped(s string) string {
	return strings.NewReplacer("&lt;", "<", "&gt;", ">", "&amp;", "&").Replace(s)
}

func (m *maker) element(inside string, scope []named) string {
	var fs []string
	for _, name := range []string{"a", "b", "class"} {
		switch m.Intn(4) {
		case 0:
			fs = append(fs, name+`="`+m.word("", "y", "&quot;{{")+`"`)
		case 1, 2:
			fs = append(fs, `:`+name+`="`+m.shown(scope)+`"`)
		}
	}
	tag := m.word("p", "q", "x-a")
	if inside == "" && m.chance(2) {
		return `<` + tag + m.fields(fs...) + `/>`
	}
	return `<` + tag + m.fields(fs...) + `>` + inside + `</` + tag + m.word("", " ") + `>`
}

// still is a static element.
func (m *maker) still(deep int) string {
	s := ""
	for range m.Intn(3) {
		if deep > 0 && m.chance(2) {
			s += m.still(deep - 1)
		} else {
			s += m.word("u", "x", "&lt;")
		}
	}
	return `<s` + m.word("", ` d=""`, ` d="z"`) + `>` + s + `</s>`
}

// bound is a new word, or, in a few cases, one that is bound already.
func (m *maker) bound(scope []named) string {
	if len(scope) > 0 && m.chance(5) {
		return scope[m.Intn(len(scope))].word
	}
	return "e" + strconv.Itoa(len(scope))
}

func (m *maker) loop(deep int, scope []named) string {
	each, at := m.bound(scope), "i"+strconv.Itoa(len(scope))
	list := m.field(scope, "", m.word("l", "m"), "b")
	if list == "" {
		return m.still(1)
	}
	inner := append(without(scope, each), named{each, 'r'})
	fs := []string{`each="` + each + `"`, `:in="` + list + `"`}
	key := m.word(each+".k", each+".k", each+"['k']")
	if m.chance(2) {
		fs, inner = append(fs, `at="`+at+`"`), append(inner, named{at, 's'})
		if m.chance(4) {
			key = at
		}
	}
	fs = append(fs, `:key="`+m.either(key, m.field(scope, "1", "k"), "null")+`"`)
	return `<for` + m.fields(fs...) + `>` + m.gap() + m.element(m.nodes(deep, inner), inner) + m.gap() + `</for>`
}

// without is a scope in which a word is free.
func without(scope []named, word string) []named {
	return slices.DeleteFunc(slices.Clone(scope), func(one named) bool { return one.word == word })
}

// given are fields that give to props what fits them.
func (m *maker) given(scope []named, props []named, plainly bool) ([]string, bool) {
	var out []string
	for _, prop := range props {
		content, ok := m.find(scope, 'r')
		switch {
		case prop.kind == 's' && plainly && m.chance(3):
			out = append(out, prop.word+`="`+m.word("", "c", "&amp;")+`"`)
			continue
		case prop.kind == 's':
			content = m.shown(scope)
		case !ok || content == "":
			// There is no name for the state: of its first list the first record is taken.
			return nil, false
		}
		out = append(out, `:`+prop.word+`="`+content+`"`)
	}
	return out, true
}

func (m *maker) slot(deep int, scope []named) string {
	name := m.word("", "", "n", "m-1")
	props, known := m.in.slots[name]
	if !known {
		for _, word := range []string{"u", "v", "p"}[:m.Intn(4)] {
			props = append(props, named{word, m.word("r", "s", "s")[0]})
		}
	}
	fs, ok := m.given(scope, props, false)
	if !ok {
		return m.still(1)
	}
	m.in.slots[name] = props
	if name != "" || m.chance(3) {
		fs = append(fs, `name="`+name+`"`)
	}
	return `<slot` + m.fields(fs...) + `>` + m.nodes(deep, scope) + `</slot>`
}

func (m *maker) use(deep int, scope []named, d *component) string {
	fs, ok := m.given(scope, d.props, true)
	if !ok {
		return m.element("", scope)
	}
	s := `<` + d.name + m.fields(fs...) + `>`
	switch _, whole := d.slots[""]; {
	case m.chance(2):
		for _, name := range []string{"", "n", "m-1"} {
			if props, ok := d.slots[name]; ok && m.chance(2) {
				s += m.gap() + m.fill(deep, scope, name, props)
			}
		}
		s += m.gap()
	case whole:
		s += m.nodes(deep, scope)
	}
	return s + `</` + d.name + `>`
}

func (m *maker) fill(deep int, scope []named, name string, props []named) string {
	inner, let := scope, []named{}
	for _, prop := range props {
		if m.chance(2) {
			inner, let = append(without(inner, prop.word), prop), append(let, prop)
		}
	}
	var fs []string
	if name != "" || m.chance(2) {
		fs = append(fs, `name="`+name+`"`)
	}
	if len(let) > 0 || m.chance(3) {
		fs = append(fs, `let="`+words(let)+`"`)
	}
	return `<fill` + m.fields(fs...) + `>` + m.nodes(deep, inner) + `</fill>`
}

// run makes so many calls of any kind, in an arena into which not all states fit, and tells how often each code came.
func (m *maker) run(t *testing.T, h *herd, calls int, state func() string, met map[api.Errno]int) {
	t.Helper()
	for range calls {
		switch n := m.Intn(20); {
		case n == 0:
			met[h.unmount(t)]++
		case n == 1 || !h.asked.mounted && n < 18:
			met[h.mount(t, state())]++
		default:
			met[h.update(t, state())]++
		}
	}
}

func sum(a, b api.Counts) api.Counts {
	return api.Counts{Created: a.Created + b.Created, Placed: a.Placed + b.Placed, Moved: a.Moved + b.Moved, Removed: a.Removed + b.Removed, Freed: a.Freed + b.Freed, Attrs: a.Attrs + b.Attrs, Texts: a.Texts + b.Texts}
}

// least is the least of all counts.
func least(n api.Counts) int {
	return min(n.Created, n.Placed, n.Moved, n.Removed, n.Freed, n.Attrs, n.Texts)
}

func expectMet(t *testing.T, met map[api.Errno]int, least int, codes ...api.Errno) {
	t.Helper()
	for _, code := range codes {
		if met[code] < least {
			t.Errorf("few of %d: %v", code, met)
		}
	}
}

// TestP25_4Random: random calls of the sessions of random templates, with states that fit, states that do not, and bytes that are none.
func TestP25_4Random(t *testing.T) {
	t.Parallel()
	m, met, counts, taken := newMaker(251), map[api.Errno]int{}, api.Counts{}, 0
	for i := range 300 {
		m.off = i % 3
		s := m.template(3 + i%3)
		if _, _, code := cores(s); code != api.OK {
			met[code]++
			continue
		}
		taken++
		h := newHerd(t, s, []int{4, 20, 60, 150, 500}[m.Intn(5)])
		m.run(t, h, 10, func() string { return m.state(1 + i%2) }, met)
		counts = sum(counts, h.asked.counts)
	}
	expectMet(t, met, 10, api.OK, api.ErrDataForm, api.ErrEvalType, api.ErrEvalPath, api.ErrVmKey, api.ErrVmFull, api.ErrVmBare, api.ErrVmMounted)
	if taken < 250 || met[api.OK] < 1200 || least(counts) < 100 {
		t.Errorf("%d: %v, %+v", taken, met, counts)
	}
}
