package model

import (
	"fmt"
	"math/rand"
	"strconv"
	"strings"
	"testing"

	"stencil/api"
	"stencil/check"
	"stencil/syntax"
)

// maker makes states, and templates that fit them, but for off in a hundred of what they ask for.
type maker struct {
	*rand.Rand
	off, bound int
}

func newMaker(seed int64) *maker { return &maker{Rand: rand.New(rand.NewSource(seed))} }

func (m *maker) chance(n int) bool { return m.Intn(n) == 0 }

func (m *maker) word(those ...string) string { return those[m.Intn(len(those))] }

// either is the one that fits, but for off in a hundred.
func (m *maker) either(fits string, others ...string) string {
	if m.Intn(100) < m.off {
		return m.word(others...)
	}
	return fits
}

// record has a bool b, values v and w, a key k, always the same for a number, and lists l and m of records, while there is room.
func (m *maker) record(room, number int) string {
	key := strconv.Itoa(number / 2)
	if number%2 == 1 {
		key = `"k` + key + `"`
	}
	return fmt.Sprintf(`{"b": %v, "v": %s, "w": %s, "k": %s, "l": %s, "m": %s}`, m.chance(2), m.either(m.word(`"x"`, `null`, `7`, `"7"`, `true`, `"é<"`), `[]`), m.word(`0`, `0`, `""`), m.either(key, `null`, `0`), m.records(room), m.records(room))
}

func (m *maker) records(room int) string {
	var out []string
	if room > 0 {
		for _, number := range m.Perm(5)[:min(m.Intn(9), 5)] {
			out = append(out, m.record(room-1, number))
		}
	}
	return "[" + strings.Join(out, ", ") + "]"
}

// pages are templates that are asked with a state of a record.
func pages() []string {
	row := `<li :a="x.v" c="1" :d="x.b">{{ x.v }}<if :test="x.b"><i>{{ x.w }}</i></if></li>`
	loop := `<for each="x" :in="l" :key="x.k">` + row + `</for>`
	return []string{
		``, `<p a="1">x<b/></p>`, `{{ v }}<p :a="v" :b="b" c="1"/>{{ w }}`, loop, `a<ul>` + loop + `</ul>b`, loop + `<p/>` + strings.ReplaceAll(loop, `"l"`, `"m"`),
		`<if :test="b">` + loop + `</if><else><p>` + loop + `</p></else>`, `<p><if :test="b">x<i>y<b/></i></if><else><i/>{{ v }}</else><u/></p>`,
		`<for each="y" :in="m" :key="y.k"><p :e="y.w">{{ y.v }}<for each="x" :in="y.l" :key="x.k">` + row + `</for><if :test="y.b">z</if></p></for>`,
		`<for each="z" :in="l" :key="z.k"><p><for each="y" :in="z.l" :key="y.k"><q><for each="x" :in="y.l" :key="x.k">` + row + `</for></q></for></p></for>`,
		`<def name="d-a" props="r"><u><slot/></u><for each="e" :in="r" :key="e.k"><i><slot name="in" :x="e"/></i></for></def><d-a :r="l"><fill>{{ v }}</fill><fill name="in" let="x">` + row + `</fill></d-a><d-a :r="m"/>`,
	}
}

const defs = `<def name="d-a" props="r"><i>{{ r.v }}</i><slot/></def>` +
	`<def name="d-b" props="r"><for each="e" :in="r.l" :key="e.k"><u><slot :q="e">none</slot></u></for></def>` +
	`<def name="d-c" props="r"><if :test="r.b"><slot/></if><else><b/><d-a :r="r"><slot/></d-a></else></def>`

// cores are those of a template of the state's s, which is none of the few that grow too large.
func (m *maker) cores(t *testing.T, deep int) []api.Core {
	for {
		ns, at, code := syntax.Parse(defs + m.nodes(deep, "s"))
		if code != api.OK {
			t.Fatalf("%d at %d", code, at)
		}
		cs, at, code := check.Check(ns)
		switch code {
		case api.OK:
			return cs
		case api.ErrCheckLarge, api.ErrCheckLoops, api.ErrCheckDeep:
		default:
			t.Fatalf("%d at %d", code, at)
		}
	}
}

// nodes are some nodes in which those names are bound to records.
func (m *maker) nodes(deep int, names ...string) string {
	var out strings.Builder
	for deep > 0 && !m.chance(4) && out.Len() < 1500 {
		out.WriteString(m.node(deep-1, names))
	}
	return out.String()
}

func (m *maker) node(deep int, names []string) string {
	r := m.word(names...)
	switch m.Intn(9) {
	case 0:
		return m.word("x", "é", " ")
	case 1:
		return m.word("y", "") + "{{ " + r + "." + m.either("v", "l", "z") + " }}"
	case 2, 3:
		return m.element(deep, names)
	case 4, 5:
		s := `<if :test="` + r + "." + m.either("b", "v") + `">` + m.nodes(deep, names...) + `</if>`
		if m.chance(2) {
			s += `<else>` + m.nodes(deep, names...) + `</else>`
		}
		return s
	case 6, 7:
		return m.loop(deep, r, names)
	}
	if m.chance(2) {
		return `<d-b :r="` + r + `"><fill let="q">` + m.nodes(deep, append([]string{"q"}, names...)...) + `</fill></d-b>`
	}
	tag := m.word("d-a", "d-c")
	return `<` + tag + ` :r="` + r + `">` + m.nodes(deep, names...) + `</` + tag + `>`
}

func (m *maker) element(deep int, names []string) string {
	tag, fields := m.word("p", "q", "x-a"), ""
	for _, name := range []string{"a", "b"} {
		if m.chance(2) {
			fields += ` :` + name + `="` + m.word(names...) + "." + m.either(m.word("v", "w", "b"), "m") + `"`
		}
	}
	return `<` + tag + fields + m.word("", ` c="y"`) + `>` + m.nodes(deep, names...) + `</` + tag + `>`
}

func (m *maker) loop(deep int, r string, names []string) string {
	m.bound++
	x, i := "x"+strconv.Itoa(m.bound), "i"+strconv.Itoa(m.bound)
	key := m.either(m.word(x+".k", x+".k", x+".k", i), r+".k", "null")
	return `<for each="` + x + `" at="` + i + `" :in="` + r + "." + m.either(m.word("l", "m"), "b") + `" :key="` + key + `">` + m.element(deep, append([]string{x}, names...)) + `</for>`
}

// run makes so many calls of any kind, in an arena into which not all states fit, and tells how often each code came.
func (m *maker) run(t *testing.T, w twin, calls int, state func() api.Value, met map[api.Errno]int) {
	t.Helper()
	for range calls {
		switch n := m.Intn(20); {
		case n == 0:
			met[w.unmount(t)]++
		case n == 1 || !w.m.mounted && n < 18:
			met[w.mount(t, state())]++
		default:
			met[w.update(t, state())]++
		}
	}
}

// TestP19Random: random calls of models of random templates, with states that fit and states that do not.
func TestP19Random(t *testing.T) {
	t.Parallel()
	m, met, all := newMaker(195), map[api.Errno]int{}, api.Counts{}
	for i := range 300 {
		m.off = i % 3
		w := newTwin(t, m.cores(t, 3+i%3), []int{4, 20, 60, 150}[m.Intn(4)])
		m.run(t, w, 15, func() api.Value { return datum(t, `{"s": `+m.record(1+i%2, 0)+`}`) }, met)
		all = sum(all, w.x.Counts())
	}
	for _, code := range []api.Errno{api.OK, api.ErrEvalType, api.ErrEvalPath, api.ErrRenderKey, api.ErrModelFull, api.ErrModelBare, api.ErrModelMounted} {
		if met[code] < 10 {
			t.Errorf("few of %d: %v", code, met)
		}
	}
	if met[api.OK] < 1500 || min(all.Created, all.Placed, all.Moved, all.Removed, all.Freed, all.Attrs, all.Texts) < 300 {
		t.Errorf("%v, %+v", met, all)
	}
}

// TestP19RandomPages: the same of templates that show much of what they are given.
func TestP19RandomPages(t *testing.T) {
	t.Parallel()
	m, met, all := newMaker(196), map[api.Errno]int{}, api.Counts{}
	for _, s := range pages() {
		cs := template(t, s)
		for i := range 8 {
			w := newTwin(t, cs, []int{20, 60, 150}[i%3])
			m.run(t, w, 15, func() api.Value { return datum(t, m.record(1+i%3, 0)) }, met)
			all = sum(all, w.x.Counts())
		}
	}
	if met[api.OK] < 500 || met[api.ErrModelFull] < 50 || met[api.ErrModelBare] < 10 || met[api.ErrModelMounted] < 10 || len(met) != 4 {
		t.Errorf("%v", met)
	}
	if min(all.Created, all.Placed, all.Moved, all.Removed, all.Freed, all.Attrs, all.Texts) < 300 {
		t.Errorf("%+v", all)
	}
}

// TestP19RandomLists: long lists, of which much is exchanged and moved at once.
func TestP19RandomLists(t *testing.T) {
	t.Parallel()
	m := newMaker(197)
	w := newTwin(t, template(t, `<b/><for each="x" :in="l" :key="x"><p>{{ x }}</p></for>z<ul><for each="x" at="i" :in="m" :key="x"><li :a="i"/></for></ul>`), 700)
	row := func() string {
		return strings.ReplaceAll(strings.Trim(fmt.Sprint(m.Perm(150)[:m.Intn(150)]), "[]"), " ", ", ")
	}
	for i := range 40 {
		v := datum(t, `{"l": [`+row()+`], "m": [`+row()+`]}`)
		if i == 0 {
			w.mount(t, v)
		} else if code := w.update(t, v); code != api.OK {
			t.Fatal(code)
		}
	}
	if n := w.x.Counts(); n.Moved < 1000 || n.Attrs < 1000 || n.Placed < 500 || n.Removed < 500 {
		t.Errorf("%+v", n)
	}
}
