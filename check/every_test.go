package check

import (
	"slices"
	"strings"
	"testing"

	"stencil/api"
)

// forests yields every list of so many nodes in all, each with one of the labels; texts have no kids, and no two stand side by side.
func forests(count int, labels []api.Node, yield func([]api.Node)) {
	if count == 0 {
		yield(nil)
		return
	}
	for _, label := range labels {
		for inside := range count {
			if label.Kind == api.NText && inside > 0 {
				break
			}
			forests(inside, labels, func(kids []api.Node) {
				first := label
				first.Kids = kids
				forests(count-1-inside, labels, func(rest []api.Node) {
					if len(rest) == 0 || rest[0].Kind == api.NElem || label.Kind == api.NElem {
						yield(append([]api.Node{first}, rest...))
					}
				})
			})
		}
	}
}

// numbered is a copy of nodes with places that rise in preorder.
func numbered(ns []api.Node) []api.Node {
	out := own(ns)
	next := 0
	for _, n := range every(out) {
		n.At, next = next, next+1
		for i := range n.Fields {
			n.Fields[i].At, next = next, next+1
		}
	}
	return out
}

// labels are the single nodes that a template says.
func labels(s string) []api.Node { return read(s) }

// TestP14EverySmall: of the small lists of nodes every one, alone and behind a def, and in one.
func TestP14EverySmall(t *testing.T) {
	t.Parallel()
	all := labels(`<p/>x<if :test="b"/> <else/>{{ x }}<for each="x" :in="1" :key="x"/><def name="d"/><slot/><fill/><d/><slot name="n" :u="1"/><fill name="n" let="u"/><e/><def name="e"/>`)
	ahead := read(`<def name="e"><slot/><slot name="n" :u="2"/></def>`)[0]
	codes := map[api.Errno]int{}
	for count := range 4 {
		forests(count, all, func(ns []api.Node) {
			codes[expectAsked(t, numbered(ns)).code]++
			codes[expectAsked(t, numbered(slices.Concat([]api.Node{ahead}, ns))).code]++
			around := api.Node{Kind: api.NElem, Tag: "def", Fields: []api.Field{{Name: "name", Plain: "f"}}, Kids: ns}
			codes[expectAsked(t, numbered([]api.Node{ahead, around, {Kind: api.NElem, Tag: "f"}})).code]++
		})
	}
	for _, code := range []api.Errno{api.OK, api.ErrCheckElse, api.ErrCheckName, api.ErrCheckDef, api.ErrCheckUse, api.ErrCheckSlot, api.ErrCheckFill, api.ErrCheckBody, api.ErrCheckTwice} {
		if codes[code] < 4 {
			t.Errorf("few of %d: %v", code, codes)
		}
	}
}

// TestP14EveryFour: of four nodes, fewer kinds.
func TestP14EveryFour(t *testing.T) {
	t.Parallel()
	ahead := read(`<def name="e"><slot/></def>`)[0]
	forests(4, labels(` <if :test="b"/> <else/> <p/>`)[1:], func(ns []api.Node) { expectAsked(t, numbered(ns)) })
	forests(4, labels(`<e/><fill/> <p/>x<for each="x" :in="x" :key="x"/>`), func(ns []api.Node) {
		expectAsked(t, numbered(slices.Concat([]api.Node{ahead}, ns)))
	})
	forests(4, labels(`<e/><slot/> <slot name="n" :x="1"/>{{ x }}<for each="x" :in="1" :key="x"/>`), func(ns []api.Node) {
		def := read(`<def name="f" props="x"/>`)[0]
		def.Kids = ns
		uses := read(`<f x=""/><f x="">{{ x }}</f><f x=""><fill name="n" let="x">{{ x }}</fill></f>`)
		for i := range uses {
			expectAsked(t, numbered([]api.Node{ahead, def, uses[i]}))
		}
	})
}

// rows yields every row of at most so many of the fields, none or some of them twice.
func rows(most int, fields []api.Field, yield func([]api.Field)) {
	yield(nil)
	if most == 0 {
		return
	}
	rows(most-1, fields, func(behind []api.Field) {
		for _, f := range fields {
			yield(append([]api.Field{f}, behind...))
		}
	})
}

// TestP14EveryFields: of each element every short row of fields, in the body, in a def, and as a def.
func TestP14EveryFields(t *testing.T) {
	t.Parallel()
	some := func(s string) []api.Field { return read("<p " + s + "/>")[0].Fields }
	each := some(`name="p" :name="1" name="P" name="" props="x y" let="u" let="u u" :test="x" test="x" each="x" at="x" :in="x" :key="x" :key="z" p="" :q="x" a-b="" :a-b="z"`)
	codes := map[api.Errno]int{}
	for _, tag := range []string{"if", "else", "for", "def", "slot", "fill", "use", "p"} {
		rows(2, each, func(fields []api.Field) { everyPlace(t, tag, fields, codes) })
	}
	rows(4, some(`each="x" at="y" at="x" :in="x" :key="y" :key="1"`), func(fields []api.Field) { everyPlace(t, "for", fields, codes) })
	rows(3, some(`name="n" name="m" let="u" let="v u" let="" let="w" x=""`), func(fields []api.Field) { everyPlace(t, "fill", fields, codes) })
	rows(3, some(`p="" :q="x" q="1" :p="z" x="" :name="1"`), func(fields []api.Field) { everyPlace(t, "use", fields, codes) })
	for _, code := range []api.Errno{api.OK, api.ErrCheckForm, api.ErrCheckName, api.ErrCheckUse, api.ErrCheckSlot, api.ErrCheckFill, api.ErrCheckKey, api.ErrCheckTwice} {
		if codes[code] < 30 {
			t.Errorf("few of %d: %v", code, codes)
		}
	}
}

// everyPlace puts an element of those fields where it may stand: first of all, behind an if and a use's def, and the same in a def with a prop x.
func everyPlace(t *testing.T, tag string, fields []api.Field, codes map[api.Errno]int) {
	t.Helper()
	def := read(`<def name="use" props="p q"><slot :u="1"/><slot name="n" :u="2" :v="3"/></def>`)[0]
	e := api.Node{Kind: api.NElem, Tag: tag, Fields: fields}
	if tag == "for" {
		e.Kids = read("<p/>")
	}
	ask := func(ns ...api.Node) { codes[expectAsked(t, numbered(ns)).code]++ }
	if tag == "def" {
		ask(e)
		ask(def, e)
		return
	}
	ns := append(read(`<if :test="1"/>`), e)
	if tag == "fill" {
		ns = read(`<use p="" q=""><fill name="m"/></use>`)
		ns[0].Kids[0] = e
	}
	ask(append([]api.Node{def}, ns...)...)
	around := api.Node{Kind: api.NElem, Tag: "def", Fields: []api.Field{{Name: "name", Plain: "r"}, {Name: "props", Plain: "x"}}, Kids: ns}
	ask(append([]api.Node{def, around}, read(`<r x=""/>`)...)...)
}

// TestP14EveryWord: which words may be props, names of loops, and names of slots and defs.
func TestP14EveryWord(t *testing.T) {
	for _, s := range []string{
		"", " ", "a", "A", "1", "a1", "_", "a_", "a-", "-a", "a-b", "null", "false", "true", "nul", "nulls", "if", "else", "for", "def", "slot", "fill", "each", "a b", " a", "a ", "a  b", "a\tb\nc\rd", "a a", "b a b", "a\vb", "a\u00a0b", "é", "a.b",
		strings.Repeat("a", 32), strings.Repeat("a", 33), "a b c d e f g h", "a b c d e f g h i", "a b c d e f g a", "\t", "len", "str",
	} {
		field := func(tag, name string) api.Node {
			return api.Node{Kind: api.NElem, Tag: tag, Fields: []api.Field{{Name: name, Plain: s}}}
		}
		def := func(kids ...api.Node) api.Node {
			return api.Node{Kind: api.NElem, Tag: "def", Fields: []api.Field{{Name: "name", Plain: "d"}}, Kids: kids}
		}
		use := func(kids ...api.Node) api.Node { return api.Node{Kind: api.NElem, Tag: "d", Kids: kids} }
		named := field("def", "props")
		named.Fields = append(named.Fields, api.Field{Name: "name", Plain: "d"})
		loop := read(`<for each="b" at="c" :in="1" :key="1"><p>{{ a }}</p></for>`)[0]
		each, at := loop, loop
		each.Fields, at.Fields = slices.Clone(loop.Fields), slices.Clone(loop.Fields)
		each.Fields[0].Plain, at.Fields[1].Plain = s, s
		slot := field("slot", "name")
		props := read(`<slot :a="1" :b="2" :null="3"/>`)[0]
		props.Fields = props.Fields[:2]
		for _, ns := range [][]api.Node{
			{field("def", "name")}, {named}, {each}, {at}, {def(slot), use(field("fill", "name"))}, {def(slot), use()}, {def(props), use(field("fill", "let"))}, {def(api.Node{Kind: api.NElem, Tag: "slot"}), use(field("fill", "name"))},
		} {
			expectAsked(t, numbered(ns))
		}
	}
}
