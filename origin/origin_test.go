package origin

import (
	"fmt"
	"reflect"
	"strconv"
	"strings"
	"testing"

	"stencil/api"
	"stencil/check"
	"stencil/data"
	"stencil/forest"
	"stencil/render"
	"stencil/syntax"
)

func template(t *testing.T, s string) []api.Core {
	t.Helper()
	ns, at, code := syntax.Parse(s)
	if code != api.OK {
		t.Fatalf("%s: %d at %d", cut(s), code, at)
	}
	cs, at, code := check.Check(ns)
	if code != api.OK {
		t.Fatalf("%s: %d at %d", cut(s), code, at)
	}
	return cs
}

func datum(t *testing.T, s string) api.Value {
	t.Helper()
	v, at, code := data.Parse([]byte(s))
	if code != api.OK {
		t.Fatalf("%s: %d at %d", cut(s), code, at)
	}
	return v
}

// cut is what may be long, for a message.
func cut(x any) string {
	s := fmt.Sprintf("%+v", x)
	if len(s) > 400 {
		return s[:250] + " .. " + s[len(s)-100:]
	}
	return s
}

// What is told.

func toldKey(k api.Key) string {
	switch k {
	case api.Key{Kind: api.KInt, Int: k.Int}:
		return strconv.Itoa(k.Int)
	case api.Key{Kind: api.KStr, Str: k.Str}:
		return strconv.Quote(k.Str)
	}
	return fmt.Sprintf("%+v", k)
}

// toldOrigin is a number, and behind each / a key.
func toldOrigin(o api.Origin) string {
	s := strconv.Itoa(o.Node)
	for _, k := range o.Keys[:o.Loops] {
		s += "/" + toldKey(k)
	}
	for _, k := range o.Keys[o.Loops:] {
		if k != (api.Key{}) {
			s += "?" + toldKey(k)
		}
	}
	return s
}

// told are spots, each as its origin, its parent, if it has one, and its own tag or text.
func told(spots []api.Spot) string {
	var out []string
	for _, spot := range spots {
		s := toldOrigin(spot.Origin)
		if spot.Parent != -1 {
			s += " in " + strconv.Itoa(spot.Parent)
		}
		if spot.Tag != "" {
			s += " <" + spot.Tag
			for _, a := range spot.Attrs {
				s += fmt.Sprintf(" %s=%q", a.Name, a.Value)
			}
			s += ">"
		}
		if spot.Tag == "" || spot.Text != "" {
			s += fmt.Sprintf(" %q", spot.Text)
		}
		out = append(out, s)
	}
	return strings.Join(out, "; ")
}

// toldLoops are loops, each as its origin and the keys of its elements.
func toldLoops(loops []api.Loop) string {
	var out []string
	for _, loop := range loops {
		var keys []string
		for _, k := range loop.Keys {
			keys = append(keys, toldKey(k))
		}
		out = append(out, toldOrigin(loop.Origin)+"["+strings.Join(keys, " ")+"]")
	}
	return strings.Join(out, "; ")
}

// What is expected.

// bare is a spot without its list, so that two can be held against each other by ==.
type bare struct {
	origin    api.Origin
	parent    int
	tag, text string
}

func alike(a, b []api.Spot) bool {
	if len(a) != len(b) {
		return false
	}
	for i := range a {
		if (bare{a[i].Origin, a[i].Parent, a[i].Tag, a[i].Text}) != (bare{b[i].Origin, b[i].Parent, b[i].Tag, b[i].Text}) {
			return false
		}
		if len(a[i].Attrs)+len(b[i].Attrs) > 0 && !reflect.DeepEqual(a[i].Attrs, b[i].Attrs) {
			return false
		}
	}
	return true
}

func alikeLoops(a, b []api.Loop) bool {
	if len(a) != len(b) {
		return false
	}
	for i := range a {
		if a[i].Origin != b[i].Origin || len(a[i].Keys)+len(b[i].Keys) > 0 && !reflect.DeepEqual(a[i].Keys, b[i].Keys) {
			return false
		}
	}
	return true
}

// expectAsked holds Trace against the second way and against P17.3, and answers the code that it told.
func expectAsked(t *testing.T, cs []api.Core, v api.Value) api.Errno {
	t.Helper()
	spots, loops, got := Trace(cs, v)
	wanted, wantedLoops, code := askedTrace(cs, v)
	if got != code || !alike(spots, wanted) || !alikeLoops(loops, wantedLoops) {
		t.Fatalf("%s of %s: %s, %s, %d, want %s, %s, %d", cut(cs), cut(v), cut(told(spots)), cut(toldLoops(loops)), got, cut(told(wanted)), cut(toldLoops(wantedLoops)), code)
	}
	fs, _ := render.Render(cs, v)
	if made := Forest(spots); !forest.Same(made, fs) {
		t.Fatalf("%s of %s: Forest of Trace is %s, Render %s", cut(cs), cut(v), cut(made), cut(fs))
	}
	expectLaws(t, spots, loops)
	return code
}

// expect holds Trace of a template and a state against what told and toldLoops write, and against the second way.
func expect(t *testing.T, s, state, want, wantLoops string) {
	t.Helper()
	cs, v := template(t, s), datum(t, state)
	spots, loops, code := Trace(cs, v)
	if code != api.OK || told(spots) != want || toldLoops(loops) != wantLoops {
		t.Errorf("%s of %s:\n%s, %s, %d, want\n%s, %s", s, cut(state), told(spots), toldLoops(loops), code, want, wantLoops)
	}
	expectAsked(t, cs, v)
}

// Templates.

// TestP17_1Rows: the document's table.
func TestP17_1Rows(t *testing.T) {
	expect(t, `a<for each="x" :in="l" :key="x"><b>{{ x }}</b></for>`, `{"l": [5, 6]}`, `0 "a"; 2/5 <b>; 3/5 in 1 "5"; 2/6 <b>; 3/6 in 3 "6"`, `1[5 6]`)
}

// TestP17_1Nodes: texts and elements, one behind the other and in one another.
func TestP17_1Nodes(t *testing.T) {
	for _, c := range []struct{ s, state, want string }{
		{``, `{}`, ``}, {`x`, `7`, `0 "x"`}, {`{{ a }}`, `{"a": null}`, `0 ""`}, {`x{{ a }}y{{ b }}`, `{"a": 1, "b": "<"}`, `0 "x1y<"`},
		{`<p/>`, `[]`, `0 <p>`}, {`<p></p><q/>`, `null`, `0 <p>; 1 <q>`}, {` <p> </p> `, `null`, `0 " "; 1 <p>; 2 in 1 " "; 3 " "`},
		{`<p b="2" a="1"/>`, `null`, `0 <p a="1" b="2">`}, {`<p :a="t" :b="f" :c="n" :d="i" e="" :f="s">{{ s }}</p>`, `{"t": true, "f": false, "n": null, "i": -3, "s": "&"}`, `0 <p a="" d="-3" e="" f="&">; 1 in 0 "&"`},
		{`<a><b><c>x</c>y</b><d/></a>z`, `null`, `0 <a>; 1 in 0 <b>; 2 in 1 <c>; 3 in 2 "x"; 4 in 1 "y"; 5 in 0 <d>; 6 "z"`},
		{`<p/><p><p/><p><p/></p></p><p/>`, `null`, `0 <p>; 1 <p>; 2 in 1 <p>; 3 in 1 <p>; 4 in 3 <p>; 5 <p>`},
	} {
		expect(t, c.s, c.state, c.want, ``)
	}
}

// TestP17_1Ifs: both ways; the numbers of the one are gone past where the other stands.
func TestP17_1Ifs(t *testing.T) {
	chain := `<if :test="a"><p><q/></p>x</if><else><if :test="b">y<b/></if><else>z<i/></else></else>w`
	for _, c := range []struct{ s, yes, no string }{
		{`<if :test="a"/>`, ``, ``}, {`<if :test="a">x</if>`, `1 "x"`, ``}, {`<if :test="a"/><else>x</else>`, ``, `1 "x"`}, {`<if :test="a">x</if><else>y</else>`, `1 "x"`, `2 "y"`},
		{`<if :test="a">x</if>z`, `1 "x"; 2 "z"`, `2 "z"`}, {`<if :test="a"/><else>x</else>z`, `2 "z"`, `1 "x"; 2 "z"`}, {`<if :test="a">x<p/></if><else><q/>y</else>z`, `1 "x"; 2 <p>; 5 "z"`, `3 <q>; 4 "y"; 5 "z"`},
		{`<if :test="a"><p><q/>x</p></if><else><p>y<q/></p></else>`, `1 <p>; 2 in 0 <q>; 3 in 0 "x"`, `4 <p>; 5 in 0 "y"; 6 in 0 <q>`},
		{`<p>x<if :test="a"><q/></if><else>y</else><b/></p>`, `0 <p>; 1 in 0 "x"; 3 in 0 <q>; 5 in 0 <b>`, `0 <p>; 1 in 0 "x"; 4 in 0 "y"; 5 in 0 <b>`},
		{chain, `1 <p>; 2 in 0 <q>; 3 "x"; 9 "w"`, `7 "z"; 8 <i>; 9 "w"`},
		{`<if :test="a"><if :test="a">x</if><else>y</else></if><else><if :test="a">z</if><else>w</else></else>`, `2 "x"`, `6 "w"`},
	} {
		expect(t, c.s, `{"a": true, "b": true}`, c.yes, ``)
		expect(t, c.s, `{"a": false, "b": false}`, c.no, ``)
	}
	expect(t, chain, `{"a": false, "b": true}`, `5 "y"; 6 <b>; 9 "w"`, ``)
}

// TestP17_1Loops: lists of no, one and many elements, one behind the other and in one another, with keys of both kinds.
func TestP17_1Loops(t *testing.T) {
	one := `<for each="x" at="i" :in="l" :key="x"><b>{{ i }}</b></for>`
	for _, c := range []struct{ s, state, want, loops string }{
		{one, `{"l": []}`, ``, `0[]`}, {one, `{"l": [7]}`, `1/7 <b>; 2/7 in 0 "0"`, `0[7]`}, {one, `{"l": ["7", 7]}`, `1/"7" <b>; 2/"7" in 0 "0"; 1/7 <b>; 2/7 in 2 "1"`, `0["7" 7]`},
		{`<for each="x" :in="l" :key="x"><b/></for>`, `{"l": [0, "0", -1, "", "é", 9223372036854775807, -9223372036854775808, "true"]}`, `1/0 <b>; 1/"0" <b>; 1/-1 <b>; 1/"" <b>; 1/"é" <b>; 1/9223372036854775807 <b>; 1/-9223372036854775808 <b>; 1/"true" <b>`, `0[0 "0" -1 "" "é" 9223372036854775807 -9223372036854775808 "true"]`},
		{`x` + one + `<i/>`, `{"l": []}`, `0 "x"; 4 <i>`, `1[]`}, {`x` + one + `<i/>`, `{"l": [3]}`, `0 "x"; 2/3 <b>; 3/3 in 1 "0"; 4 <i>`, `1[3]`},
		{one + one, `{"l": [3, 4]}`, `1/3 <b>; 2/3 in 0 "0"; 1/4 <b>; 2/4 in 2 "1"; 4/3 <b>; 5/3 in 4 "0"; 4/4 <b>; 5/4 in 6 "1"`, `0[3 4]; 3[3 4]`},
		{`<p>` + one + `</p>`, `{"l": [3]}`, `0 <p>; 2/3 in 0 <b>; 3/3 in 1 "0"`, `1[3]`},
		// The key may be the number of the element, or what is made of it.
		{`<for each="x" at="i" :in="l" :key="i"><b>{{ x }}</b></for>`, `{"l": [5, 5]}`, `1/0 <b>; 2/0 in 0 "5"; 1/1 <b>; 2/1 in 2 "5"`, `0[0 1]`}, {`<for each="x" at="i" :in="l" :key="x ~ i"><b/></for>`, `{"l": [null, true]}`, `1/"0" <b>; 1/"true1" <b>`, `0["0" "true1"]`},
		// In one another: the inner loop stands once for each element of the outer one, behind what stands ahead of it there.
		{`<for each="x" at="i" :in="l" :key="i"><p><for each="y" :in="x" :key="y"><q/></for></p></for>`, `{"l": [["a", 1], [], [1]]}`, `1/0 <p>; 3/0/"a" in 0 <q>; 3/0/1 in 0 <q>; 1/1 <p>; 1/2 <p>; 3/2/1 in 4 <q>`, `0[0 1 2]; 2/0["a" 1]; 2/1[]; 2/2[1]`},
		{`<for each="x" :in="l" :key="x"><p><i/><for each="y" :in="l" :key="-y"><q>z</q></for>{{ x }}</p></for>`, `{"l": [1, 2]}`, `1/1 <p>; 2/1 in 0 <i>; 4/1/-1 in 0 <q>; 5/1/-1 in 2 "z"; 4/1/-2 in 0 <q>; 5/1/-2 in 4 "z"; 6/1 in 0 "1"; 1/2 <p>; 2/2 in 7 <i>; 4/2/-1 in 7 <q>; 5/2/-1 in 9 "z"; 4/2/-2 in 7 <q>; 5/2/-2 in 11 "z"; 6/2 in 7 "2"`, `0[1 2]; 3/1[-1 -2]; 3/2[-1 -2]`},
		{`<for each="x" :in="l" :key="x"><p><for each="y" :in="l" :key="y"><q/></for><for each="z" :in="none" :key="z"><r/></for></p></for>x`, `{"l": ["a"], "none": []}`, `1/"a" <p>; 3/"a"/"a" in 0 <q>; 6 "x"`, `0["a"]; 2/"a"["a"]; 4/"a"[]`},
		// Behind a loop the keys around are again those of before.
		{`<for each="x" :in="l" :key="x"><p><for each="y" :in="l" :key="y"><q/></for>z</p></for>w`, `{"l": [1]}`, `1/1 <p>; 3/1/1 in 0 <q>; 4/1 in 0 "z"; 5 "w"`, `0[1]; 2/1[1]`},
	} {
		expect(t, c.s, c.state, c.want, c.loops)
	}
}

// TestP17_1Choices: ifs in loops and loops in ifs: what does not stand is no spot and no loop, and each element has its own way.
func TestP17_1Choices(t *testing.T) {
	each := `<for each="x" :in="l" :key="x.k"><p><if :test="x.b">y<q/></if><else><r/></else></p></for>`
	expect(t, each, `{"l": [{"k": 1, "b": true}, {"k": 2, "b": false}]}`, `1/1 <p>; 3/1 in 0 "y"; 4/1 in 0 <q>; 1/2 <p>; 5/2 in 3 <r>`, `0[1 2]`)
	either := `<if :test="b"><for each="x" :in="l" :key="x"><p/></for></if><else><q/><for each="x" :in="l" :key="-x"><i/></for></else>z`
	expect(t, either, `{"b": true, "l": [1, 2]}`, `2/1 <p>; 2/2 <p>; 6 "z"`, `1[1 2]`)
	expect(t, either, `{"b": false, "l": [1, 2]}`, `3 <q>; 5/-1 <i>; 5/-2 <i>; 6 "z"`, `4[-1 -2]`)
	inner := `<for each="x" :in="l" :key="x"><p><if :test="x == 1"/><else><for each="y" :in="l" :key="y"><q/></for></else></p></for>`
	expect(t, inner, `{"l": [1, 2]}`, `1/1 <p>; 1/2 <p>; 4/2/1 in 1 <q>; 4/2/2 in 1 <q>`, `0[1 2]; 3/2[1 2]`)
}

// TestP17_1Withs: components and slots have numbers, and are no nodes; around a loop and in it.
func TestP17_1Withs(t *testing.T) {
	for _, c := range []struct{ s, state, want, loops string }{
		{`<def name="d"/><d/>x`, `{}`, `1 "x"`, ``},
		{`<def name="d" props="p"><b>{{ p }}</b></def><d p="1"/><d :p="a"/>`, `{"a": 2}`, `1 <b>; 2 in 0 "1"; 4 <b>; 5 in 2 "2"`, ``},
		{`<def name="d"><slot/>y</def><d>x</d>z`, `{}`, `2 "x"; 3 "y"; 4 "z"`, ``}, {`<def name="d"><slot>y</slot></def><d/>`, `{}`, `2 "y"`, ``},
		// Around a loop: one in the component, one in what fills its slot.
		{`<def name="d" props="p"><for each="x" :in="p" :key="x"><b>{{ x }}</b></for></def><d :p="l"/><i/>`, `{"l": [1, "a"]}`, `2/1 <b>; 3/1 in 0 "1"; 2/"a" <b>; 3/"a" in 2 "a"; 4 <i>`, `1[1 "a"]`},
		{`<def name="d"><u><slot/></u></def><d><for each="x" :in="l" :key="x"><b/></for></d>`, `{"l": [1, 2]}`, `1 <u>; 4/1 in 0 <b>; 4/2 in 0 <b>`, `3[1 2]`},
		// In a loop, and a loop in a component in a loop.
		{`<def name="d" props="p"><i>{{ p }}</i></def><for each="x" :in="l" :key="x"><b><d :p="x"/></b></for>`, `{"l": [1, 2]}`, `1/1 <b>; 3/1 in 0 <i>; 4/1 in 1 "1"; 1/2 <b>; 3/2 in 3 <i>; 4/2 in 4 "2"`, `0[1 2]`},
		{`<def name="d" props="p"><for each="y" :in="p" :key="y"><i><slot :q="y"/></i></for></def><for each="x" at="i" :in="l" :key="i"><b><d :p="x"><fill let="q">{{ q }}{{ i }}</fill></d></b></for>`, `{"l": [[7], [8, 9]]}`, `1/0 <b>; 4/0/7 in 0 <i>; 6/0/7 in 1 "70"; 1/1 <b>; 4/1/8 in 3 <i>; 6/1/8 in 4 "81"; 4/1/9 in 3 <i>; 6/1/9 in 6 "91"`, `0[0 1]; 3/0[7]; 3/1[8 9]`},
		// A slot that stands twice is two core nodes.
		{`<def name="d"><slot/><slot/></def><d><for each="x" :in="l" :key="x"><b/></for></d>`, `{"l": [1]}`, `3/1 <b>; 6/1 <b>`, `2[1]; 5[1]`},
	} {
		expect(t, c.s, c.state, c.want, c.loops)
	}
	// One of no values, and one that is empty, which no template says.
	x := api.Core{Kind: api.CText, Parts: []api.Part{{Plain: "x"}}}
	cs := []api.Core{{Kind: api.CWith}, {Kind: api.CWith, Kids: []api.Core{x, x}}, x, x}
	if spots, loops, code := Trace(cs, datum(t, `1`)); told(spots) != `2 "x"; 3 "x"; 4 "x"; 5 "x"` || len(loops) != 0 || code != api.OK {
		t.Errorf("%s, %s, %d", told(spots), toldLoops(loops), code)
	}
	expectAsked(t, cs, datum(t, `1`))
}

// TestP17_1None: no nodes; spots and loops are none, each by itself.
func TestP17_1None(t *testing.T) {
	for _, s := range []string{``, `<if :test="f">x</if>`, `<if :test="t"/><else>x</else>`, `<def name="d"/><d/>`, `<def name="d"><slot/></def><d><if :test="f"><p/></if></d>`} {
		expect(t, s, `{"t": true, "f": false}`, ``, ``)
	}
	expect(t, `<for each="x" :in="l" :key="x"><p>x</p></for><for each="x" :in="l" :key="1 / 0"><q/></for>`, `{"l": []}`, ``, `0[]; 3[]`)
	for _, cs := range [][]api.Core{nil, {}} {
		if spots, loops, code := Trace(cs, api.Value{Kind: api.KNull}); len(spots) != 0 || len(loops) != 0 || code != api.OK {
			t.Errorf("%s, %s, %d", told(spots), toldLoops(loops), code)
		}
	}
}
