package session

import (
	"strings"
	"testing"

	"stencil/api"
)

// rows yields every row of at most so many of those.
func rows(most int, those []string, yield func(s string)) {
	yield("")
	if most == 0 {
		return
	}
	for _, one := range those {
		rows(most-1, those, func(behind string) { yield(one + behind) })
	}
}

// expectTotal holds that a text is taken just if the layers ahead take it, else refused with their error and place; it tells whether it was taken.
func expectTotal(t *testing.T, s string, o api.Options, met map[api.Errno]int) bool {
	t.Helper()
	_, place, want := cores(s)
	x, at, code := New(s, 9, o)
	if at != place || code != want || (x == nil) != (want != api.OK) {
		t.Fatalf("%d at %d, want %d at %d: %s", code, at, want, place, cut(s))
	}
	met[code]++
	return code == api.OK
}

// TestT3EveryBytes: of the short texts of the bytes that mean something every one.
func TestT3EveryBytes(t *testing.T) {
	t.Parallel()
	met := map[api.Errno]int{}
	some := settings()
	for k, bytes := range []string{`< / > p = " sp`, `{ } v & < >`, "<p> </p> {{ }} & \xff x"} {
		those := strings.Split(strings.ReplaceAll(bytes, "sp", "\t"), " ")
		rows(5, those, func(s string) { expectTotal(t, s, some[(k+len(s))%8], met) })
	}
	expectMet(t, met, 100, api.OK, api.ErrLexTag, api.ErrLexUtf, api.ErrLexBrace, api.ErrLexEntity, api.ErrSyntaxTag, api.ErrSyntaxExpr)
}

// small are states that fit the small templates, and such as do not, in one thing.
func small() []string {
	return []string{`{"v": "s", "b": true, "l": [1, 2]}`, `{"v": 7, "b": false, "l": [2, "1", 1]}`, `{"v": [], "b": true, "l": [2]}`, `{"v": "s", "b": true, "l": [1, 1]}`, `{"v": null, "b": 1, "l": []}`, `{"b": false, "l": [3]}`, `{"v": "u", "b": true, "l": 1}`, `{"v": true, "b": false, "l": [3, 2, 1]}`, `{`}
}

// everyRow runs the templates that are rows of pieces, with something around, and tells how many of them were taken.
func everyRow(t *testing.T, most int, around string, those []string, met map[api.Errno]int) int {
	t.Helper()
	taken, at, states := 0, 0, small()
	rows(most, those, func(s string) {
		s = strings.Replace(around, "§", s, 1)
		if at++; !expectTotal(t, s, settings()[at%8], met) {
			return
		}
		taken++
		h := newHerd(t, s, []int{30, 5, 9}[at%3])
		for i := range states {
			met[h.take(t, states[(i+at)%len(states)])]++
			if i == 4 && h.asked.mounted {
				h.unmount(t)
			}
		}
	})
	return taken
}

// TestT3EveryRow: of the short rows of tags and texts every one, in the body: each is refused, or runs as is asked for.
func TestT3EveryRow(t *testing.T) {
	t.Parallel()
	met := map[api.Errno]int{}
	taken := everyRow(t, 4, "§", []string{`<p :a="v">`, `</p>`, `<if :test="b">`, `</if>`, `<else>`, `</else>`, `x`, `{{ v }}`, `<for each="x" at="i" :in="l" :key="x">`, `</for>`, `<i c="1"/>`}, met)
	taken += everyRow(t, 4, `<for each="x" :in="l" :key="x"><p>§</p></for>`, []string{`<b :a="x"/>`, ` `, `<if :test="b">`, `</if>`, `<else>{{ x }}`, `</else>`, `y`, `{{ v }}`, `<for each="y" :in="l" :key="y"><u>{{ y }}`, `</u></for>`}, met)
	expectMet(t, met, 100, api.OK, api.ErrSyntaxTag, api.ErrCheckElse, api.ErrDataForm, api.ErrEvalType, api.ErrEvalPath, api.ErrVmKey, api.ErrVmFull)
	if taken < 800 || met[api.ErrCheckBody] < 50 {
		t.Errorf("only %d were taken: %v", taken, met)
	}
}

// TestT3EveryUse: of the short rows of what stands in a def and in its use every one.
func TestT3EveryUse(t *testing.T) {
	t.Parallel()
	met := map[api.Errno]int{}
	taken := everyRow(t, 3, `<def name="d" props="q">§</def><d :q="v"><b/>{{ v }}</d>`, []string{`<slot/>`, `<slot>`, `</slot>`, `{{ q }}`, `{{ v }}`, `<slot name="n" :u="q"/>`, `<i :a="q"/>`, ` `, `<d q=""/>`, `<if :test="true">`, `</if>`}, met)
	taken += everyRow(t, 4, `<def name="d" props="q"><b :a="q"><slot :u="q">n</slot></b><slot name="n" :u="1"/></def>§`, []string{`<d :q="v">`, `<d q="c"/>`, `</d>`, `<fill let="u">`, `<fill name="n">`, `</fill>`, `{{ u }}`, `{{ v }}`, ` `, `<p/>`, `<d/>`}, met)
	taken += everyRow(t, 3, `<def name="e" props="q"><slot/></def><def name="d" props="q"><e :q="q">§</e></def><d :q="v">{{ v }}</d><for each="x" :in="l" :key="x"><u><d :q="x"/></u></for>`, []string{`<slot/>`, `<e q="">`, `</e>`, `<fill>`, `</fill>`, `{{ q }}`, `x`, `<for each="y" :in="q" :key="y"><p/></for>`}, met)
	expectMet(t, met, 20, api.OK, api.ErrSyntaxTag, api.ErrCheckName, api.ErrCheckUse, api.ErrCheckFill, api.ErrDataForm, api.ErrEvalType, api.ErrVmKey, api.ErrVmFull)
	if taken < 500 {
		t.Errorf("only %d were taken", taken)
	}
}

// spoilt is a text with a piece of it gone, doubled, or exchanged by another one: some bytes, or a tag.
func (m *maker) spoilt(s string) string {
	from := m.Intn(len(s) + 1)
	behind := min(len(s), from+m.Intn(6))
	pieces := []string{"<", ">", "/", `"`, "{{", "}}", "&", "=", " ", ":", "p", "\xff", "é", "e0", "if", "for", "def", ` a=""`, ` :b="v"`}
	if !m.chance(3) {
		from = max(strings.LastIndex(s[:from], "<"), 0)
		behind = from + strings.Index(s[from:], ">") + 1
		pieces = []string{"</p>", "<p>", "<else/>", "<else>", "</if>", "<slot/>", `<slot name="n"/>`, "<fill/>", `<fill name="n"></fill>`, "<d-0/>", "<d-1/>", `<def name="d-1"/>`, `<for each="x" :in="l" :key="x.k">`, `</for>`, `<if :test="b">`, "{{ v }}", "{{ p }}", "x", " "}
	}
	switch m.Intn(4) {
	case 0:
		return s[:from] + s[behind:]
	case 1:
		return s[:behind] + s[from:]
	case 2:
		return s[:from] + m.word(pieces...) + s[from:]
	}
	return s[:from] + m.word(pieces...) + s[behind:]
}

// TestT3Spoilt: random templates with one to three changes are taken, or refused with the error and the place that the layers ahead tell; those that are taken run.
func TestT3Spoilt(t *testing.T) {
	t.Parallel()
	m, met, taken := newMaker(259), map[api.Errno]int{}, 0
	for i := range 6000 {
		s := m.template(2 + i%3)
		for range 1 + i%2 {
			s = m.spoilt(s)
		}
		if expectTotal(t, s, settings()[i%8], met) && m.chance(5) {
			taken++
			h := newHerd(t, s, 80)
			for range 3 {
				h.take(t, m.state(1))
			}
		}
	}
	expectMet(t, met, 20, api.OK, api.ErrLexTag, api.ErrLexUtf, api.ErrLexEntity, api.ErrSyntaxTag, api.ErrSyntaxExpr, api.ErrCheckForm, api.ErrCheckElse, api.ErrCheckName, api.ErrCheckSlot, api.ErrCheckFill)
	if taken < 100 {
		t.Errorf("%d: %v", taken, met)
	}
}
