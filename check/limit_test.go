package check

import (
	"strconv"
	"strings"
	"testing"

	"stencil/api"
)

// expectTaken asks that a template has no fault.
func expectTaken(t *testing.T, s string) {
	t.Helper()
	if _, at, code := Check(read(s)); code != api.OK {
		t.Errorf("%s: %d at %d", cut(s), code, at)
	}
	expectAsked(t, read(s))
}

// filledUp is a template of so many pieces: elements of one piece each, and behind them, to be short, some of 513.
func filledUp(pieces int) string {
	large := `<p :a="1` + strings.Repeat("+1", 255) + `"/>`
	return strings.Repeat("<p/>", pieces%513) + strings.Repeat(large, pieces/513)
}

// TestP14_2Pieces: each kind of node has its pieces; MaxCore of them are taken, and one more is not.
func TestP14_2Pieces(t *testing.T) {
	t.Parallel()
	head := `<def name="d"><slot :u="1"/></def><def name="e" props="p q"/>`
	for _, row := range []struct {
		node   string
		pieces int
	}{
		{"<p/>", 1}, {"x", 2}, {"{{ 1 }}", 3}, {"{{ a }}", 4}, {"x{{ a }}", 5}, {"{{ a.b[1] + 2 }}", 1 + 1 + 7}, {"x{{ a }}y{{ 'x' }}", 1 + 4 + 3},
		{`<p a=""/>`, 2}, {`<p a="x" b="y"/>`, 3}, {`<p :a="1"/>`, 3}, {`<p :a="b" c=""/>`, 5}, {`<p :a="b ~ c"/>`, 2 + 5},
		{`<if :test="true"/>`, 3}, {`<if :test="a"/>`, 4}, {`<if :test="a"/> <else/>`, 4}, {`<if :test="a"><p/></if><else>x</else>`, 4 + 1 + 2},
		{`<for each="x" :in="a" :key="1"><p/></for>`, 1 + 3 + 2 + 1}, {`<for each="x" :in="a" :key="x"> <p/> </for>`, 1 + 3 + 2 + 1}, {`<for each="x" :in="a" :key="y"><p :z="x"/></for>`, 1 + 3 + 3 + 3},
		{`<d/>`, 1 + 3}, {`<d>x</d>`, 1 + 3 + 2}, {`<d> </d>`, 1 + 3}, {`<d> <fill let="u">{{ u }}</fill> </d>`, 1 + 3 + 3}, {`<d><fill>{{ u }}</fill></d>`, 1 + 3 + 4},
		{`<e p="" q=""/>`, 5}, {`<e p="" :q="q"/>`, 6}, {`<e :p="1 + 1" q=""/>`, 7},
	} {
		expectTaken(t, head+filledUp(4096-row.pieces)+row.node)
		expectTaken(t, head+row.node+filledUp(4096-row.pieces))
		expectFault(t, api.ErrCheckLarge, head+row.node+filledUp(4096-row.pieces)+"§<p/>")
		expectFault(t, api.ErrCheckLarge, head+row.node+filledUp(4096-row.pieces)+"§x")
	}
}

// TestP14_2Place: the place is that of the node that is too much, wherever it stands for itself.
func TestP14_2Place(t *testing.T) {
	t.Parallel()
	fill := filledUp(4096)[4:] // one piece is left; each <p/> less leaves one more
	expectFault(t, api.ErrCheckLarge, fill+`§<p a=""><q/></p>`)
	expectFault(t, api.ErrCheckLarge, fill+`<p>§<q/></p>`)
	expectFault(t, api.ErrCheckLarge, fill+`§<if :test="1"><p/></if>`)
	expectFault(t, api.ErrCheckLarge, fill[8:]+`<if :test="1"/><else>§<p/></else>`)
	expectFault(t, api.ErrCheckLarge, fill[8:]+`<if :test="1">§<q/></if><else><p/></else>`)
	expectFault(t, api.ErrCheckLarge, fill+`§<for each="x" :in="1" :key="1"><p/></for>`)
	expectFault(t, api.ErrCheckLarge, fill[16:]+`<for each="x" :in="1" :key="1">§<p/></for>`)
	expectFault(t, api.ErrCheckLarge, `<def name="a">§<p/></def>`+fill+`<a/>`)
	expectFault(t, api.ErrCheckLarge, `<def name="a">§<slot/></def>`+fill+`<a/>`)
	expectFault(t, api.ErrCheckLarge, `<def name="a"><slot/></def>`+fill[4:]+`<a>§x</a>`)
	expectFault(t, api.ErrCheckLarge, `<def name="a"><slot>§<p/></slot></def>`+fill[4:]+`<a/>`)
	expectFault(t, api.ErrCheckLarge, `<def name="a" props="p"/>`+fill+`§<a p=""/>`)
	expectFault(t, api.ErrCheckLarge, `<def name="a"><slot/></def><def name="b"><a>§<p/></a></def>`+fill[8:]+`<b/>`)
	// What is in no use of the body does not count.
	expectTaken(t, `<def name="a">`+filledUp(3000)+`</def><def name="b"><a/><a/></def>`+filledUp(4096))
	expectTaken(t, `<def name="a"><slot>`+filledUp(2000)+`</slot></def>`+filledUp(2000)+`<a><fill/></a><a>x</a>`)
	expectFault(t, api.ErrCheckLarge, `<def name="a"><p/><p/></def><def name="b">§<a/>`+strings.Repeat(`<a/>`, 99)+`</def>`+filledUp(4095)+`<b/>`)
	expectFault(t, api.ErrCheckLarge, `<def name="a">`+filledUp(2046)+`§<p/></def><a/><p/><a/>`)
	// No answer stands beside it.
	if cs, at, code := Check(read(strings.Repeat("<p/>", 4097))); cs != nil || at != 4*4096 || code != api.ErrCheckLarge {
		t.Errorf("%s, %d at %d", cut(show(cs)), code, at)
	}
}

// nest puts s into so many elements.
func nest(n int, s string) string {
	return strings.Repeat("<p>", n) + s + strings.Repeat("</p>", n)
}

func loops(n int, s string) string {
	for i := range n {
		s = `<for each="x` + strconv.Itoa(n-i) + `" :in="1" :key="1"><p>` + s + `</p></for>`
	}
	return s
}

// TestP14_2Depth: an element may lie 63 deep, with those of uses and slots, and no deeper.
func TestP14_2Depth(t *testing.T) {
	head := `<def name="a">` + nest(30, "<slot/>") + `</def><def name="b">` + nest(20, "<p/>") + `</def>`
	for _, row := range []struct{ ok, deep string }{
		{`<a>` + nest(30, "x") + `</a>`, ""},
		{nest(3, `<a>`+nest(27, `<q/>`)+`</a>`), ""},
		{nest(1, `<a><a><p/><p><q/></p>x</a></a>`), nest(1, `<a><a><p/><p><q/><q>§<r/></q></p>x</a></a>`)},
		{nest(3, `<a><a>x</a></a>`), nest(3, `<a><a>§<q/></a></a>`)},
		{nest(12, `<a><b/></a>`), ""},
		{`<a>` + nest(2, `<a><if :test="1"><q/></if></a>`) + `</a>`, `<a>` + nest(2, `<a><if :test="1"><q/></if><else><q>§<q/></q></else></a>`) + `</a>`},
		{nest(1, `<a>`+nest(1, `<a><for each="x" :in="y" :key="x"><q>{{ x }}</q></for></a>`)+`</a>`), nest(2, `<a>`+nest(1, `<a><for each="x" :in="y" :key="x">§<q/></for></a>`)+`</a>`)},
	} {
		expectTaken(t, head+row.ok)
		if row.deep != "" {
			expectFault(t, api.ErrCheckDeep, head+row.deep)
		}
	}
	expectTaken(t, head+nest(3, `<a>`+nest(9, `<b/>`)+`</a>`))
	deepInDef := `<def name="a">` + nest(30, "<slot/>") + `</def><def name="b">` + nest(20, "§<p/>") + `</def>`
	expectFault(t, api.ErrCheckDeep, deepInDef+nest(3, `<a>`+nest(10, `<b/>`)+`</a>`))
	// Elements beside one another lie no deeper.
	expectTaken(t, head+strings.Repeat(nest(3, `<a><a>x</a></a>`), 40))
}

// uses are n uses around s of a def that puts so many values on the stack.
func uses(values, n int, s string) string {
	fields := ""
	for i := range values {
		fields += ` p` + strconv.Itoa(i) + `=""`
	}
	tag := `u` + strconv.Itoa(values)
	return strings.Repeat("<"+tag+fields+">", n) + s + strings.Repeat("</"+tag+">", n)
}

func useDefs() string {
	s := ""
	for values := range 9 {
		props := ""
		for i := range values {
			props += ` p` + strconv.Itoa(i)
		}
		s += `<def name="u` + strconv.Itoa(values) + `" props="` + props + `"><slot/></def>`
	}
	return s
}

// TestP14_2Stack: MaxStack values may lie on the stack, the state among them, and no more.
func TestP14_2Stack(t *testing.T) {
	slots := `<def name="s">` + `<slot` + fields(50) + `>own</slot></def>`
	head := useDefs()
	u := func(values, n int, s string) string { return uses(values, n, s) }
	expectTaken(t, head+u(8, 7, u(7, 1, u(0, 5, "x{{ a }}"))))
	expectFault(t, api.ErrCheckDeep, head+u(8, 7, "§"+u(8, 1, u(0, 5, "x"))))
	expectFault(t, api.ErrCheckDeep, head+u(7, 9, "§"+u(1, 1, "")))
	expectTaken(t, head+u(7, 9, u(0, 9, "")))
	// The two values of a for.
	expectTaken(t, head+u(8, 7, u(5, 1, loops(1, "{{ x1 }}"))))
	expectFault(t, api.ErrCheckDeep, head+u(8, 7, u(6, 1, "§"+loops(1, "{{ x1 }}"))))
	expectFault(t, api.ErrCheckDeep, head+u(8, 7, u(7, 1, "§"+loops(1, "{{ x1 }}"))))
	expectFault(t, api.ErrCheckDeep, head+u(8, 7, u(4, 1, `<for each="x" :in="a" :key="1"><p>§`+loops(1, "")+"</p></for>")))
	// The props of a slot, filled or not.
	one := `<def name="s" props="p"><slot` + fields(62) + `>own</slot></def>`
	expectTaken(t, one+`<s p=""/><s p="">x</s><s p=""><fill let="x61">{{ x61 }}</fill></s>`)
	expectFault(t, api.ErrCheckDeep, strings.Replace(`<def name="s" props="p">§<slot`+fields(63)+`>own</slot></def>`, "own", "", 1)+`<s p=""/>`)
	expectFault(t, api.ErrCheckDeep, strings.Replace(slots, "<slot", "§<slot", 1)+useDefs()+u(7, 2, `<s/>`))
	expectTaken(t, slots+useDefs()+u(6, 2, `<s/>`))
	expectTaken(t, slots+strings.Repeat(`<s/>`, 20))
	expectFault(t, api.ErrCheckDeep, strings.Replace(slots, "<slot", "§<slot", 1)+`<s><fill let="x0"><s/></fill></s>`)
	// Behind a use its values are gone.
	expectTaken(t, head+strings.Repeat(u(8, 7, u(7, 1, "x")), 20))
	// Of unbounded many props, what is too large is told first.
	expectFault(t, api.ErrCheckLarge, `<def name="a">§<slot`+fields(2048)+`/></def><a/>`)
	expectFault(t, api.ErrCheckDeep, `<def name="a">§<slot`+fields(2047)+`/></def><a/>`)
}

// fields are n props of a slot.
func fields(n int) string {
	s := ""
	for i := range n {
		s += ` :x` + strconv.Itoa(i) + `="1"`
	}
	return s
}

// TestP14_2Loops: a for may lie in MaxLoops - 1 others.
func TestP14_2Loops(t *testing.T) {
	expectTaken(t, loops(8, "x"))
	expectFault(t, api.ErrCheckLoops, `<for each="y" :in="a" :key="1"><p>`+strings.Replace(loops(8, "x"), `<for each="x8"`, `§<for each="x8"`, 1)+`</p></for>`)
	expectTaken(t, strings.Repeat(loops(8, "x"), 20))
	head := `<def name="a">` + loops(4, "<slot/>") + `</def>`
	expectTaken(t, head+`<a><a>x</a></a>`)
	expectTaken(t, head+loops(4, `<a>x</a>`))
	expectFault(t, api.ErrCheckLoops, head+`<a><a>§`+loops(1, "")+`</a></a>`)
	expectFault(t, api.ErrCheckLoops, strings.Replace(head, `<for each="x4"`, `§<for each="x4"`, 1)+loops(5, `<a>x</a>`))
	// Other nodes may lie in MaxLoops of them.
	expectTaken(t, `<def name="a" props="p"><slot :u="p"/></def>`+loops(8, `<if :test="a">{{ x8 }}</if><else><p/></else><a p="">x</a>`))
}

// TestP14_2Row: of one node too large is told first, then too deep, then too many loops; of two the first.
func TestP14_2Row(t *testing.T) {
	head := useDefs()
	inner := uses(8, 5, uses(6, 1, "§"+loops(1, ""))) // 1 + 16 + 46 + 2 values
	eight := loops(8, "@")
	expectFault(t, api.ErrCheckDeep, head+strings.Replace(eight, "@", inner, 1))
	expectFault(t, api.ErrCheckLoops, head+strings.Replace(eight, "@", uses(8, 5, uses(5, 1, "§"+loops(1, ""))), 1))
	// In MaxLoops loops, with no room for one value more, with no piece left: the pieces so far are those of the loops, 8 elements, the uses with their slots and props.
	used := 8*(1+2+2+1) + 5*(1+16+1) + (1 + 12 + 1)
	expectFault(t, api.ErrCheckDeep, head+filledUp(4096-used-5)+strings.Replace(eight, "@", inner, 1))
	expectFault(t, api.ErrCheckLarge, head+filledUp(4096-used-4)+strings.Replace(eight, "@", inner, 1))
	expectFault(t, api.ErrCheckLarge, head+filledUp(4096)+"§"+strings.Replace(strings.Replace(eight, "@", inner, 1), "§", "", 1))
	expectFault(t, api.ErrCheckDeep, head+strings.Replace(eight, "@", inner, 1)+filledUp(4096))
	// An element that is too deep and too large.
	deep := `<def name="a">` + nest(30, "<slot/>") + `</def>`
	used = 3 + 2*(1+30+1)
	expectFault(t, api.ErrCheckDeep, deep+filledUp(4096-used-1)+nest(3, `<a><a>§<q/></a></a>`))
	expectFault(t, api.ErrCheckLarge, deep+filledUp(4096-used)+nest(3, `<a><a>§<q/></a></a>`))
}

// TestP14_4NoneMeansItself: however far round, a component's use in itself is refused, so what is answered ends.
func TestP14_4NoneMeansItself(t *testing.T) {
	expectFault(t, api.ErrCheckUse, `<def name="a">§<a/></def><a/>`)
	expectFault(t, api.ErrCheckUse, `<def name="a"><slot/></def><def name="b"><a>§<b/></a></def><b/>`)
	expectFault(t, api.ErrCheckUse, `<def name="a">§<b/></def><def name="b"><a/></def><a/>`)
	expectFault(t, api.ErrCheckUse, `<def name="a"><slot>§<c/></slot></def><def name="b"><a/></def><def name="c"><b/></def><c/>`)
	expectFault(t, api.ErrCheckUse, `<def name="a"><slot/></def><def name="b"><a><fill>§<b/></fill></a></def>`)
	// A component in its own slot, from outside, is none of these.
	expectCore(t, `<def name="a"><slot/></def><a><a><a>x</a></a></a>`, "with(with(with(with(with(with('x'))))))")
}
