package compile

import (
	"fmt"
	"math/rand"
	"strconv"
	"strings"
	"testing"

	"stencil/api"
	"stencil/core"
)

// maker makes states, and cores that fit them, but for off in a hundred of what they ask for.
type maker struct {
	*rand.Rand
	off int
}

func newMaker(seed int64) *maker { return &maker{Rand: rand.New(rand.NewSource(seed))} }

func (m *maker) chance(n int) bool { return m.Intn(n) == 0 }

func (m *maker) word(those ...string) string { return those[m.Intn(len(those))] }

// either is the one that fits, but for off in a hundred.
func (m *maker) either(fits string, others ...string) string {
	if m.Intn(100) < m.off {
		return m.word(others...)
	}
	return fits
}

// record has a bool b, values v and w, a key k, always the same for a number, and lists l and m of records, while there is room.
func (m *maker) record(room, number int) string {
	key := strconv.Itoa(number / 2)
	if number%2 == 1 {
		key = `"k` + key + `"`
	}
	return fmt.Sprintf(`{"b": %v, "v": %s, "w": %s, "k": %s, "l": %s, "m": %s}`, m.chance(2), m.either(m.word(`"x"`, `null`, `7`, `"7"`, `true`, `"é<"`), `[]`), m.word(`0`, `0`, `""`), m.either(key, `null`, `0`), m.records(room), m.records(room))
}

func (m *maker) records(room int) string {
	var out []string
	if room > 0 {
		for _, number := range m.Perm(5)[:min(m.Intn(9), 5)] {
			out = append(out, m.record(room-1, number))
		}
	}
	return "[" + strings.Join(out, ", ") + "]"
}

// place is one of the stack; kinds tells of each whether a record lies there (r), or a value that has a text (s).
func (m *maker) place(kinds string, want byte) (string, bool) {
	var those []string
	for i := range len(kinds) {
		if kinds[i] == want {
			those = append(those, "p"+strconv.Itoa(i))
		}
	}
	if len(those) == 0 {
		return "", false
	}
	return m.word(those...), true
}

// of is a field of a record of the stack.
func (m *maker) of(kinds string, fits string, others ...string) string {
	if len(others) > 0 {
		fits = m.either(fits, others...)
	}
	r, _ := m.place(kinds, 'r')
	return r + "." + fits
}

// test comes to a bool.
func (m *maker) test(kinds string) string {
	b := m.of(kinds, "b", "v", "z")
	switch m.Intn(8) {
	case 0:
		return b + " && " + m.of(kinds, "b", "w")
	case 1:
		return "!" + b + " || " + m.of(kinds, "b", "w")
	case 2:
		return b + " ? len(" + m.of(kinds, "l") + ") > 1 : " + m.of(kinds, "b")
	}
	return b
}

// shown is what has a text.
func (m *maker) shown(kinds string) string {
	s, ok := m.place(kinds, 's')
	if !ok || m.chance(2) {
		s = m.of(kinds, m.word("v", "w", "k", "b"), "l", "z")
	}
	switch m.Intn(9) {
	case 0:
		return m.test(kinds) + " ? " + s + " : 'n'"
	case 1:
		return "'t' ~ " + s
	case 2:
		return m.either(m.word("7", "'c'", "null"), "1 / 0", "9223372036854775807 + 1")
	}
	return s
}

// whole is a core of the state, which is none of the few that grow too large.
func (m *maker) whole(deep int) []api.Core {
	for {
		cs := m.cores(deep, "r")
		switch fault := core.Check(cs); fault {
		case api.OK:
			return cs
		case api.ErrCoreLarge, api.ErrCoreDeep:
		default:
			panic(fault)
		}
	}
}

func (m *maker) cores(deep int, kinds string) []api.Core {
	var out []api.Core
	for deep > 0 && !m.chance(5) && len(out) < 6 {
		out = append(out, m.core(deep-1, kinds))
	}
	return out
}

func (m *maker) core(deep int, kinds string) api.Core {
	switch m.Intn(12) {
	case 0:
		return text(m.word("x", "é", " "))
	case 1, 2:
		return m.text(kinds)
	case 3:
		return m.still(2)
	case 4, 5, 6:
		return m.element(deep, kinds)
	case 7, 8:
		return otherwise(when(m.test(kinds), m.cores(deep, kinds)...), m.cores(deep, kinds)...)
	case 9, 10:
		return m.loop(deep, kinds)
	}
	var exprs []string
	inner := kinds
	for range m.Intn(4) {
		if m.chance(2) {
			exprs, inner = append(exprs, m.shown(kinds)), inner+"s"
		} else {
			r, _ := m.place(kinds, 'r')
			exprs, inner = append(exprs, r), inner+"r"
		}
	}
	return with(exprs, m.cores(deep, inner)...)
}

func (m *maker) text(kinds string) api.Core {
	var out []api.Part
	for range 1 + m.Intn(4) {
		if m.chance(2) && (len(out) == 0 || out[len(out)-1].Bound) {
			out = append(out, plain(m.word("x", " ", "é")))
		} else {
			out = append(out, bound(m.shown(kinds)))
		}
	}
	return parts(out...)
}

func (m *maker) element(deep int, kinds string) api.Core {
	var fs []api.Field
	for _, name := range []string{"a", "b", "c"} {
		switch m.Intn(4) {
		case 0:
			fs = append(fs, attr(name, m.word("", "y")))
		case 1, 2:
			fs = append(fs, boundAttr(name, m.shown(kinds)))
		}
	}
	return fields(elem(m.word("p", "q", "x-a"), m.cores(deep, kinds)...), fs...)
}

// still is a static element.
func (m *maker) still(deep int) api.Core {
	out := elem(m.word("s", "t"))
	if m.chance(3) {
		out.Fields = []api.Field{attr("d", m.word("", "z"))}
	}
	for range m.Intn(3) {
		if deep > 0 && m.chance(2) {
			out.Kids = append(out.Kids, m.still(deep-1))
		} else {
			out.Kids = append(out.Kids, text(m.word("u", "x")))
		}
	}
	return out
}

func (m *maker) loop(deep int, kinds string) api.Core {
	element, number := "p"+strconv.Itoa(len(kinds)), "p"+strconv.Itoa(len(kinds)+1)
	key := m.either(m.word(element+".k", element+".k", element+".k", number), m.of(kinds, "k"), "null")
	kid := m.element(deep, kinds+"rs")
	if m.chance(5) {
		kid = m.still(2)
	}
	return loop(m.of(kinds, m.word("l", "m"), "b"), key, kid)
}

// run makes so many calls of any kind, in an arena into which not all states fit, and tells how often each code came.
func (m *maker) run(t *testing.T, w *twins, calls int, state func() api.Value, met map[api.Errno]int) {
	t.Helper()
	for range calls {
		switch n := m.Intn(20); {
		case n == 0:
			met[w.unmount(t)]++
		case n == 1 || !w.mounted && n < 18:
			met[w.mount(t, state())]++
		default:
			met[w.update(t, state())]++
		}
	}
}

func sum(a, b api.Counts) api.Counts {
	return api.Counts{Created: a.Created + b.Created, Placed: a.Placed + b.Placed, Moved: a.Moved + b.Moved, Removed: a.Removed + b.Removed, Freed: a.Freed + b.Freed, Attrs: a.Attrs + b.Attrs, Texts: a.Texts + b.Texts}
}

// TestP24_1Random: random calls of the machines of random cores, with states that fit and states that do not.
func TestP24_1Random(t *testing.T) {
	t.Parallel()
	m, met, all := newMaker(241), map[api.Errno]int{}, api.Counts{}
	for i := range 400 {
		m.off = i % 3
		w := newTwins(t, m.whole(3+i%4), []int{4, 20, 60, 150, 500}[m.Intn(5)])
		m.run(t, w, 10, func() api.Value { return datum(t, m.record(1+i%2, 0)) }, met)
		all = sum(all, w.model.Counts())
	}
	for _, fault := range []api.Errno{api.OK, api.ErrEvalType, api.ErrEvalPath, api.ErrVmKey, api.ErrVmFull, api.ErrVmBare, api.ErrVmMounted} {
		if met[fault] < 10 {
			t.Errorf("few of %d: %v", fault, met)
		}
	}
	if met[api.OK] < 2000 || min(all.Created, all.Placed, all.Moved, all.Removed, all.Freed, all.Attrs, all.Texts) < 300 {
		t.Errorf("%v, %+v", met, all)
	}
}

// pages are templates that are asked with a state of a record.
func pages() []string {
	row := `<li :a="x.v" c="1" :d="x.b">{{ x.v }}<if :test="x.b"><i>{{ x.w }}</i></if></li>`
	loop := `<for each="x" :in="l" :key="x.k">` + row + `</for>`
	return []string{
		``, `<p a="1">x<b/></p>`, `{{ v }}<p :a="v" :b="b" c="1"/>{{ w }}`, `a{{ v }}b{{ w }}{{ b }}`, loop, `a<ul>` + loop + `</ul>b`, loop + `<p/>` + strings.ReplaceAll(loop, `"l"`, `"m"`),
		`<if :test="b">` + loop + `</if><else><p>` + loop + `</p></else>`, `<p><if :test="b">x<i>y<b/></i></if><else><i/>{{ v }}</else><u/></p>`,
		`<for each="y" :in="m" :key="y.k"><p :e="y.w">{{ y.v }}<for each="x" :in="y.l" :key="x.k">` + row + `</for><if :test="y.b">z</if></p></for>`,
		`<for each="z" :in="l" :key="z.k"><p><for each="y" :in="z.l" :key="y.k"><q><for each="x" :in="y.l" :key="x.k">` + row + `</for></q></for></p></for>`,
		`<def name="d-a" props="r"><u><slot/></u><for each="e" :in="r" :key="e.k"><i><slot name="in" :x="e"/></i></for></def><d-a :r="l"><fill>{{ v }}</fill><fill name="in" let="x">` + row + `</fill></d-a><d-a :r="m"/>`,
		`<for each="x" at="i" :in="l" :key="i"><p :n="i">a{{ x.k }}b{{ x.v }}{{ i }}<i c="1">z</i></p></for>`, `{{ v }}<for each="x" :in="m" :key="x.k"><i c="1">z<b/></i></for>{{ w }}`,
	}
}

// TestP24_1Pages: templates that show much of what they are given, with states that fit and states that do not.
func TestP24_1Pages(t *testing.T) {
	t.Parallel()
	m, met, all := newMaker(242), map[api.Errno]int{}, api.Counts{}
	for _, s := range pages() {
		for i := range 8 {
			m.off = i % 3
			w := newTwins(t, template(t, s), []int{20, 60, 150, 400}[i%4])
			m.run(t, w, 15, func() api.Value { return datum(t, m.record(1+i%3, 0)) }, met)
			all = sum(all, w.model.Counts())
		}
	}
	if met[api.OK] < 500 || met[api.ErrVmFull] < 50 || met[api.ErrVmKey] < 5 || met[api.ErrVmBare] < 5 || met[api.ErrVmMounted] < 10 || met[api.ErrEvalType] < 50 {
		t.Errorf("%v", met)
	}
	if min(all.Created, all.Placed, all.Moved, all.Removed, all.Freed, all.Attrs, all.Texts) < 300 {
		t.Errorf("%+v", all)
	}
}
