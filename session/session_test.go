package session

import (
	"math"
	"reflect"
	"slices"
	"strings"
	"testing"

	"stencil/api"
	"stencil/compile"
)

// expectRefused holds that a text is refused with the fault at the §, whatever the room and the settings are.
func expectRefused(t *testing.T, code api.Errno, s string) {
	t.Helper()
	s, place := marked(s)
	for i, room := range []int{9, 0, 1, -1, api.MaxRoom, api.MaxRoom + 1, 40, 0} {
		if x, at, got := New(s, room, settings()[i]); x != nil || at != place || got != code {
			t.Errorf("%d at %d, want %d at %d: %s", got, at, code, place, cut(s))
		}
	}
}

// expectTaken holds that a text is taken in each setting, and that the session is bare.
func expectTaken(t *testing.T, s string) {
	t.Helper()
	for _, x := range all(t, s, 3) {
		expectBare(t, x, 3)
	}
}

// expectBare holds that the root alone is live, and that all else is free.
func expectBare(t *testing.T, x *Session, room int) {
	t.Helper()
	cells := x.Cells()
	if len(cells) != room || !sameCells(cells[0], api.Cell{Live: true, Parent: -1, First: -1, Last: -1, Prev: -1, Next: -1}) {
		t.Fatalf("%d cells, the root %+v", len(cells), cells[0])
	}
	for handle, cell := range cells[1:] {
		if !sameCells(cell, api.Cell{}) {
			t.Fatalf("%d: %+v", handle+1, cell)
		}
	}
	free := x.Free()
	slices.Sort(free)
	if len(free) != room-1 || !slices.Equal(slices.Compact(free), free) || room > 1 && (free[0] != 1 || free[room-2] != room-1) {
		t.Fatalf("%v are free", free)
	}
	if n := x.Counts(); n.Created != n.Freed || len(x.Forest()) != 0 || x.Html() != "" {
		t.Fatalf("%+v, %s", n, x.Html())
	}
}

// TestP25_1Syntax: each error of syntax.Parse, with its place.
func TestP25_1Syntax(t *testing.T) {
	t.Parallel()
	x := func(n int) string { return strings.Repeat("x", n) }
	expectRefused(t, api.ErrLexLong, x(api.MaxTemplate+1))
	expectRefused(t, api.ErrLexLong, strings.Repeat("<p/>", api.MaxTemplate/4)+"x")
	expectRefused(t, api.ErrLexLong, "<b/>§"+x(api.MaxStr+1))
	expectRefused(t, api.ErrLexLong, `<b a=§"`+x(api.MaxStr+1)+`"/>`)
	expectRefused(t, api.ErrLexUtf, "<p>é</p>§\xff<p>")
	expectRefused(t, api.ErrLexUtf, "<p>§\xed\xa0\x80")
	expectRefused(t, api.ErrLexBrace, "<p>x§{{ v }</p>")
	expectRefused(t, api.ErrLexTag, "<p a§")
	expectRefused(t, api.ErrLexTag, "<p a§>x</p>")
	expectRefused(t, api.ErrLexTag, "x<§ p>")
	expectRefused(t, api.ErrLexTag, "x<§"+x(api.MaxName+1)+"/>")
	expectRefused(t, api.ErrLexTag, "x<p/§")
	expectRefused(t, api.ErrLexAttr, `<p a=§"x>`)
	expectRefused(t, api.ErrLexEntity, "a§&lt<p>")
	expectRefused(t, api.ErrLexEntity, `<p a="x§&b"/>`)
	expectRefused(t, api.ErrSyntaxLarge, strings.Repeat("<p/>", api.MaxParse)+"§x")
	expectRefused(t, api.ErrSyntaxDeep, strings.Repeat("<p>", api.MaxNest)+"§<q/>"+strings.Repeat("</p>", api.MaxNest))
	expectRefused(t, api.ErrSyntaxExpr, "x§{{ a b }}")
	expectRefused(t, api.ErrSyntaxExpr, `<p a="" §:b=""/>`)
	expectRefused(t, api.ErrSyntaxTag, "<p>x</p>§</p>")
	expectRefused(t, api.ErrSyntaxTag, "<p><b>x§</p>")
	expectRefused(t, api.ErrSyntaxTag, "<p>x<i/>§<b>y<i/>")
	expectTaken(t, "<b/>"+x(api.MaxStr)+`<b a="`+x(api.MaxStr)+`"/>`)
	expectTaken(t, nested(api.MaxNest, "p", "x"))
	expectTaken(t, "x<"+x(api.MaxName)+"/>")
	expectTaken(t, strings.Repeat("<b/>"+x(4092), 16))
	expectTaken(t, `<def name="a">`+strings.Repeat("<p/>", api.MaxParse-1)+`</def>`)
}

// TestP25_1Check: each error of check.Check, with its place.
func TestP25_1Check(t *testing.T) {
	t.Parallel()
	head := `<def name="d" props="p"><slot :u="p"/></def>`
	for _, row := range []struct {
		code api.Errno
		s    string
	}{
		{api.ErrCheckForm, `x<p/><if §test="a"/>`}, {api.ErrCheckForm, `x§<if/>`}, {api.ErrCheckForm, `<for §each="P" :in="a" :key="a"><p/></for>`}, {api.ErrCheckForm, `§<def/>`}, {api.ErrCheckForm, `<if :test="a"/><else §a=""/>`},
		{api.ErrCheckElse, `<p/>§<else/>`}, {api.ErrCheckElse, `<if :test="a"/>x§<else/>`},
		{api.ErrCheckName, `<def name="d">x<b/>§{{ v }}</def>`}, {api.ErrCheckName, `<def name="d"><b §:a="v"/></def>`},
		{api.ErrCheckDef, `<p/>§<def name="d"/>`}, {api.ErrCheckDef, head + `§<def name="d"/>`}, {api.ErrCheckDef, `<p>§<def name="d"/></p>`},
		{api.ErrCheckUse, `<def name="d">§<d/></def>`}, {api.ErrCheckUse, head + `<d p="" §q=""/>`}, {api.ErrCheckUse, head + `x§<d/>`},
		{api.ErrCheckSlot, `<p>§<slot/></p>`}, {api.ErrCheckFill, `§<fill/>`}, {api.ErrCheckFill, head + `<d p=""><fill/>§x</d>`}, {api.ErrCheckFill, head + `<d p="">§<fill name="n"/></d>`}, {api.ErrCheckFill, head + `<d p=""><fill §let="v"/></d>`},
		{api.ErrCheckKey, `x§<for each="x" :in="a"><p/></for>`}, {api.ErrCheckBody, `x§<for each="x" :in="a" :key="x">x</for>`}, {api.ErrCheckBody, `§<for each="x" :in="a" :key="x"><p/><p/></for>`},
		{api.ErrCheckTwice, `<p a="" §:a="1"/>`}, {api.ErrCheckTwice, head + `<d p=""><fill/>§<fill/></d>`},
		{api.ErrCheckLarge, strings.Repeat("<p/>", api.MaxCore) + `§<q/>`}, {api.ErrCheckLarge, `<def name="d">` + strings.Repeat("<p/>", api.MaxCore-1) + `§x</def><d/>`},
		{api.ErrCheckDeep, `<def name="d">` + nested(30, "p", "<slot/>") + `</def>` + nested(3, "p", "<d><d>§<q/></d></d>")},
		{api.ErrCheckLoops, looped(api.MaxLoops-1, `<for each="y" :in="x" :key="y"><p>§<for each="z" :in="y" :key="z"><b/></for></p></for>`)},
	} {
		expectRefused(t, row.code, row.s)
	}
	expectTaken(t, head+`<d p=""><fill let="u">{{ u }}</fill></d>`)
	expectTaken(t, strings.Repeat("<p/>", api.MaxCore))
	expectTaken(t, `<def name="d">`+strings.Repeat("<p/>", api.MaxCore-1)+`</def><d/>`)
	expectTaken(t, `<def name="d">`+nested(30, "p", "<slot/>")+`</def>`+nested(3, "p", "<d><d>x</d></d>"))
	expectTaken(t, looped(api.MaxLoops, "<b/>"))
}

// looped is s in so many loops.
func looped(n int, s string) string {
	for range n {
		s = `<for each="x" :in="l" :key="x"><p>` + s + `</p></for>`
	}
	return s
}

// TestP25_1Room: a room is asked behind all of the text, and may be from 1 to MaxRoom.
func TestP25_1Room(t *testing.T) {
	t.Parallel()
	for _, s := range []string{"", "x", `<p a="1">{{ v }}</p>`, `<def name="d"/>`, looped(3, "x")} {
		for _, o := range settings() {
			for _, room := range []int{math.MinInt, -8192, -1, 0, api.MaxRoom + 1, 1 << 20, math.MaxInt} {
				if x, at, code := New(s, room, o); x != nil || at != 0 || code != api.ErrVmRoom {
					t.Errorf("%d: %d at %d", room, code, at)
				}
			}
			for _, room := range []int{1, 2, 40, api.MaxRoom - 1, api.MaxRoom} {
				x := started(t, s, room, o)
				expectBare(t, x, room)
				if n := x.Counts(); n != (api.Counts{}) || room > 1 && x.Free()[0] != 1 {
					t.Errorf("%d: %+v", room, n)
				}
			}
		}
	}
}

// TestP25_1Settings: the options are handed on as they are; of a session nobody can tell, but of its program.
func TestP25_1Settings(t *testing.T) {
	s := `<def name="d" props="t">{{ t }}</def><b c="1">x</b>{{ v }}<d :t="v"/>`
	for _, o := range settings() {
		b, code := build(s, 9, o)
		if code != api.OK {
			t.Fatal(code)
		}
		bound := slices.ContainsFunc(b.program.Blocks[0].Ops, func(op api.Op) bool { return op.Kind == api.OpWith })
		if hoisted := len(b.program.Statics) > 0; hoisted != o.Hoist || bound == o.Inline {
			t.Errorf("%+v: %s", o, cut(b.program))
		}
		if listed := len(b.program.Blocks[0].Update) < len(b.program.Blocks[0].Ops); listed != o.Flags {
			t.Errorf("%+v: %s", o, cut(b.program))
		}
		want, _ := compile.Compile(b.cores, o)
		if !reflect.DeepEqual(b.program, want) {
			t.Errorf("%+v: %s, want %s", o, cut(b.program), cut(want))
		}
	}
	for _, x := range all(t, s, 9) {
		if x.Mount([]byte(`{"v": 1}`)) != api.OK || x.Html() != `<b c="1">x</b>11` || x.Update([]byte(`{"v": 2}`)) != api.OK || x.Html() != `<b c="1">x</b>22` {
			t.Error(x.Html())
		}
	}
}

// dataFaults are bytes that are no value, each error of data.Parse among them.
func dataFaults() map[string]api.Errno {
	return map[string]api.Errno{
		"": api.ErrDataForm, "{": api.ErrDataForm, "[1,]": api.ErrDataForm, "1 2": api.ErrDataForm, "nul": api.ErrDataForm, "\"\xff\"": api.ErrDataForm, `{"v":1}x`: api.ErrDataForm, "-0": api.ErrDataForm,
		"9223372036854775808": api.ErrDataNumber, `{"v":1,"v":2}`: api.ErrDataTwice, strings.Repeat("[", api.MaxDepth+1): api.ErrDataDeep,
		"[" + strings.Repeat("0,", api.MaxItems) + "0]": api.ErrDataLarge, strings.Repeat(" ", api.MaxData) + "1": api.ErrDataLong, `"` + strings.Repeat("x", api.MaxStr+1) + `"`: api.ErrDataLong,
	}
}

// TestP25_2Bytes: bytes that are no value, of a session that is bare and of one that is mounted; what is asked first is whether it is.
func TestP25_2Bytes(t *testing.T) {
	t.Parallel()
	for i, x := range all(t, `<p>{{ v }}</p>`, 9) {
		for d, code := range dataFaults() {
			if x.Update([]byte(d)) != api.ErrVmBare || x.Mount([]byte(d)) != code || x.Unmount() != api.ErrVmBare || x.Html() != "" {
				t.Errorf("%+v: bare: %s", settings()[i], cut(d))
			}
			if x.Mount([]byte(`{"v":1}`)) != api.OK {
				t.Fatal("not mounted")
			}
			before := pictureOf(x)
			if x.Mount([]byte(d)) != api.ErrVmMounted || x.Update([]byte(d)) != code || !pictureOf(x).same(before) {
				t.Errorf("%+v: mounted: %s", settings()[i], cut(d))
			}
			if x.Update([]byte(` {"v" : "y"}`)) != api.OK || x.Html() != "<p>y</p>" || x.Unmount() != api.OK {
				t.Errorf("%+v: %s: %s", settings()[i], cut(d), x.Html())
			}
		}
	}
}

// TestP25_2Nil: no bytes are bytes that are no value.
func TestP25_2Nil(t *testing.T) {
	x := started(t, "x", 2, api.Options{})
	if x.Mount(nil) != api.ErrDataForm || x.Update(nil) != api.ErrVmBare || x.Mount([]byte("1")) != api.OK || x.Mount(nil) != api.ErrVmMounted || x.Update(nil) != api.ErrDataForm || x.Html() != "x" {
		t.Error(x.Html())
	}
}

// told is a call with its answer, and the Html behind it.
type told struct {
	call string
	d    string
	code api.Errno
	html string
}

func (c told) of(x *Session) api.Errno {
	switch c.call {
	case "mount":
		return x.Mount([]byte(c.d))
	case "update":
		return x.Update([]byte(c.d))
	}
	return x.Unmount()
}

// expectTold makes calls in their row, in each setting.
func expectTold(t *testing.T, s string, room int, calls []told) {
	t.Helper()
	for i, x := range all(t, s, room) {
		for at, c := range calls {
			before := pictureOf(x)
			if code := c.of(x); code != c.code || x.Html() != c.html {
				t.Fatalf("%+v: %d: %s %s: %d, %s, want %d, %s", settings()[i], at, c.call, cut(c.d), code, cut(x.Html()), c.code, cut(c.html))
			}
			if c.code != api.OK && !pictureOf(x).same(before) {
				t.Fatalf("%+v: %d: %s %s was refused, and changed something", settings()[i], at, c.call, cut(c.d))
			}
		}
	}
}

// TestP25Table: the rows of the document's table.
func TestP25Table(t *testing.T) {
	expectTold(t, `<p>{{ a }}</p>`, 9, []told{
		{"mount", `{"a":1}`, api.OK, "<p>1</p>"}, {"update", `{"b":1}`, api.ErrEvalPath, "<p>1</p>"}, {"update", `{`, api.ErrDataForm, "<p>1</p>"}, {"mount", `{}`, api.ErrVmMounted, "<p>1</p>"},
	})
	expectRefused(t, api.ErrSyntaxTag, `<p>`)
	expectRefused(t, api.ErrCheckSlot, `<slot/>`)
	if x, at, code := New("", 0, api.Options{}); x != nil || at != 0 || code != api.ErrVmRoom {
		t.Errorf("%d at %d", code, at)
	}
}

// TestP25_2Calls: what is mounted is not mounted again, what is bare neither updated nor unmounted; a Mount that is refused leaves it bare.
func TestP25_2Calls(t *testing.T) {
	expectTold(t, `{{ v }}<for each="x" :in="l" :key="x"><b>{{ x }}</b></for>`, 6, []told{
		{"update", `{"v":1,"l":[]}`, api.ErrVmBare, ""}, {"unmount", "", api.ErrVmBare, ""}, {"mount", `{"v":1}`, api.ErrEvalPath, ""}, {"update", `{"v":1,"l":[]}`, api.ErrVmBare, ""}, {"unmount", "", api.ErrVmBare, ""},
		{"mount", `{"v":1,"l":[]}`, api.OK, "1"}, {"mount", `{"v":1,"l":[]}`, api.ErrVmMounted, "1"}, {"mount", `7`, api.ErrVmMounted, "1"}, {"update", `7`, api.ErrEvalType, "1"},
		{"update", `{"v":2,"l":[3,4]}`, api.OK, "2<b>3</b><b>4</b>"}, {"update", `{"v":2,"l":[3,4,5]}`, api.ErrVmFull, "2<b>3</b><b>4</b>"}, {"update", `{"v":2,"l":[3,3]}`, api.ErrVmKey, "2<b>3</b><b>4</b>"},
		{"unmount", "", api.OK, ""}, {"unmount", "", api.ErrVmBare, ""}, {"update", `{"v":1,"l":[]}`, api.ErrVmBare, ""}, {"mount", `{"v":1,"l":[3,4,5]}`, api.ErrVmFull, ""}, {"mount", `{"v":null,"l":["a"]}`, api.OK, "<b>a</b>"},
		{"update", `{"v":[],"l":["a"]}`, api.ErrEvalType, "<b>a</b>"}, {"unmount", "", api.OK, ""},
	})
}

// TestP25_2Empty: a template of nothing is mounted by any value, in the least room.
func TestP25_2Empty(t *testing.T) {
	for _, s := range []string{"", `<def name="d"><p/></def>`, `<def name="d"/> <def name="e">x</def>`, `<if :test="false">x</if>`} {
		expectTold(t, s, 1, []told{{"update", "1", api.ErrVmBare, ""}, {"mount", "[", api.ErrDataForm, ""}, {"mount", "[]", api.OK, ""}, {"mount", "[]", api.ErrVmMounted, ""}, {"update", "null", api.OK, ""}, {"update", "", api.ErrDataForm, ""}, {"unmount", "", api.OK, ""}, {"update", "1", api.ErrVmBare, ""}})
	}
	expectTold(t, "x", 1, []told{{"mount", "[]", api.ErrVmFull, ""}, {"update", "1", api.ErrVmBare, ""}, {"unmount", "", api.ErrVmBare, ""}})
}

// TestP25_2Faults: values at which rendering is refused, by a bare session and by one that shows a state.
func TestP25_2Faults(t *testing.T) {
	t.Parallel()
	long := strings.Repeat("x", 3000)
	for e, code := range map[string]api.Errno{
		"z": api.ErrEvalPath, "v.k": api.ErrEvalType, "n + 1": api.ErrEvalOver, "v / 0": api.ErrEvalZero, "v << 64": api.ErrEvalShift, "l[9]": api.ErrEvalIndex, "s ~ s": api.ErrEvalLong, "!v": api.ErrEvalType, "l": api.ErrEvalType, "s ? 1 : 2": api.ErrEvalType,
	} {
		quoted := strings.ReplaceAll(e, "<", "&lt;")
		for _, s := range []string{
			"x{{ q ? (" + e + ") : 'y' }}<b/>", `<b><i :a="q ? (` + quoted + `) : 'y'"/></b>`, `<for each="x" :in="l" :key="x"><b>{{ q ? (` + e + `) : x }}</b></for>`,
			`<def name="d" props="p"><b>{{ p }}</b></def><d :p="q ? (` + quoted + `) : 'y'"/>`, `<if :test="true">{{ q ? (` + e + `) : 1 }}</if>`, `<if :test="false"/><else>{{ q ? (` + e + `) : 1 }}</else>`,
		} {
			base := `"v": 1, "n": 9223372036854775807, "l": [5, 6], "s": "` + long + `"}`
			for i, x := range all(t, s, 12) {
				bad, good := []byte(`{"q": true, `+base), []byte(`{"q": false, `+base)
				if x.Mount(bad) != code || x.Mount(bad) != code || x.Update(good) != api.ErrVmBare || x.Mount(good) != api.OK {
					t.Fatalf("%+v: bare: %s", settings()[i], s)
				}
				before := pictureOf(x)
				if got := x.Update(bad); got != code || !pictureOf(x).same(before) || x.Update(good) != api.OK || !pictureOf(x).same(before) {
					t.Fatalf("%+v: %d, want %d: %s", settings()[i], got, code, s)
				}
			}
		}
	}
}

// TestP25_3Html: the forest's text, with what must be escaped.
func TestP25_3Html(t *testing.T) {
	expectTold(t, `a&lt;{{ v }}<p c="&quot;{" :d="v">{{ v }}}</p><br/>`, 9, []told{
		{"mount", `{"v": "<\"&{{"}`, api.OK, `a&lt;&lt;"&amp;&lbrace;&lbrace;<p c="&quot;&lbrace;" d="&lt;&quot;&amp;&lbrace;&lbrace;">&lt;"&amp;&lbrace;&lbrace;}</p><br></br>`},
		{"update", `{"v": "\u00e9\n"}`, api.OK, "a&lt;é\n<p c=\"&quot;&lbrace;\" d=\"é\n\">é\n}</p><br></br>"}, {"update", `{"v": null}`, api.OK, `a&lt;<p c="&quot;&lbrace;">}</p><br></br>`}, {"update", `{"v": true}`, api.OK, `a&lt;true<p c="&quot;&lbrace;" d="">true}</p><br></br>`},
	})
}

// TestP25_3Arena: cells, free list, counters and forest, handle by handle.
func TestP25_3Arena(t *testing.T) {
	for i, x := range all(t, `<ul a="1"><for each="x" :in="l" :key="x"><li :b="x">{{ x }}</li></for></ul>`, 8) {
		if x.Mount([]byte(`{"l": [7, 8]}`)) != api.OK {
			t.Fatal("not mounted")
		}
		a := func(name, value string) []api.Attr { return []api.Attr{{Name: name, Value: value}} }
		root := api.Cell{Live: true, Parent: -1, First: 1, Last: 1, Prev: -1, Next: -1}
		ul := api.Cell{Live: true, Tag: "ul", Attrs: a("a", "1"), Parent: 0, First: 2, Last: 4, Prev: -1, Next: -1}
		li, text := api.Cell{Live: true, Tag: "li", Attrs: a("b", "7"), Parent: 1, First: 3, Last: 3, Prev: -1, Next: 4}, api.Cell{Live: true, Text: "7", Parent: 2, First: -1, Last: -1, Prev: -1, Next: -1}
		li2, text2 := api.Cell{Live: true, Tag: "li", Attrs: a("b", "8"), Parent: 1, First: 5, Last: 5, Prev: 2, Next: -1}, api.Cell{Live: true, Text: "8", Parent: 4, First: -1, Last: -1, Prev: -1, Next: -1}
		tree := func(s string) api.Tree { return api.Tree{Tag: "li", Attrs: a("b", s), Kids: []api.Tree{{Text: s}}} }
		want := picture{
			cells: []api.Cell{root, ul, li, text, li2, text2, {}, {}}, free: []int{6, 7}, counts: api.Counts{Created: 5, Placed: 1},
			forest: []api.Tree{{Tag: "ul", Attrs: a("a", "1"), Kids: []api.Tree{tree("7"), tree("8")}}}, html: `<ul a="1"><li b="7">7</li><li b="8">8</li></ul>`,
		}
		if got := pictureOf(x); !got.same(want) {
			t.Fatalf("%+v: %s, want %s", settings()[i], cut(got), cut(want))
		}
		// 7 goes, 9 comes in its handles, ahead of 8.
		if x.Update([]byte(`{"l": [9, 8]}`)) != api.OK {
			t.Fatal("not updated")
		}
		want.cells[2].Attrs, want.cells[3].Text = a("b", "9"), "9"
		want.counts = api.Counts{Created: 7, Placed: 2, Removed: 1, Freed: 2}
		want.forest[0].Kids[0] = tree("9")
		want.html = strings.ReplaceAll(want.html, "7", "9")
		if got := pictureOf(x); !got.same(want) {
			t.Fatalf("%+v: %s, want %s", settings()[i], cut(got), cut(want))
		}
	}
}
