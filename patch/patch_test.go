package patch

import (
	"fmt"
	"strconv"
	"strings"
	"testing"

	"stencil/api"
	"stencil/check"
	"stencil/data"
	"stencil/origin"
	"stencil/syntax"
)

// shown is a rendering as it is handed in.
type shown struct {
	spots []api.Spot
	loops []api.Loop
}

func least(a, b shown) (api.Plan, api.Errno) {
	return Least(a.spots, a.loops, b.spots, b.loops)
}

func template(t *testing.T, s string) []api.Core {
	t.Helper()
	nodes, at, code := syntax.Parse(s)
	if code == api.OK {
		var cs []api.Core
		if cs, at, code = check.Check(nodes); code == api.OK {
			return cs
		}
	}
	t.Fatalf("%s: %d at %d", s, code, at)
	return nil
}

// traced is the rendering of a core with a state.
func traced(t *testing.T, cs []api.Core, state string) shown {
	t.Helper()
	v, at, code := data.Parse([]byte(state))
	if code != api.OK {
		t.Fatalf("%s: %d at %d", state, code, at)
	}
	spots, loops, code := origin.Trace(cs, v)
	if code != api.OK {
		t.Fatalf("%s: %d", state, code)
	}
	return shown{spots, loops}
}

// Renderings as words.

// keyOf is an integer or a text; _ is the zero key.
func keyOf(s string) api.Key {
	if s == "_" {
		return api.Key{}
	}
	if n, err := strconv.Atoi(s); err == nil {
		return api.Key{Kind: api.KInt, Int: n}
	}
	return api.Key{Kind: api.KStr, Str: s}
}

// originOf is a number, and behind each / a key.
func originOf(s string) api.Origin {
	words := strings.Split(s, "/")
	node, err := strconv.Atoi(words[0])
	if err != nil {
		panic(s)
	}
	o := api.Origin{Node: node, Loops: len(words) - 1}
	for i, word := range words[1:] {
		o.Keys[i] = keyOf(word)
	}
	return o
}

// rows are what stands between semicolons, each cut at blanks.
func rows(s string) [][]string {
	var out [][]string
	for _, row := range strings.Split(s, ";") {
		if words := strings.Fields(row); len(words) > 0 {
			out = append(out, words)
		}
	}
	return out
}

// spotsOf are spots, each as its origin, behind @ its parent, if it has one, and then its text, or <tag and attributes>.
func spotsOf(s string) []api.Spot {
	var out []api.Spot
	for _, words := range rows(s) {
		name, parent, inside := strings.Cut(words[0], "@")
		spot := api.Spot{Origin: originOf(name), Parent: -1}
		if inside {
			spot.Parent, _ = strconv.Atoi(parent)
		}
		rest := strings.Join(words[1:], " ")
		if !strings.HasPrefix(rest, "<") {
			spot.Text = rest
		} else {
			words = strings.Fields(strings.Trim(rest, "<>"))
			spot.Tag = words[0]
			for _, word := range words[1:] {
				name, value, _ := strings.Cut(word, "=")
				spot.Attrs = append(spot.Attrs, api.Attr{Name: name, Value: value})
			}
		}
		out = append(out, spot)
	}
	return out
}

// loopsOf are loops, each as its origin and the keys of its elements.
func loopsOf(s string) []api.Loop {
	var out []api.Loop
	for _, words := range rows(s) {
		loop := api.Loop{Origin: originOf(words[0])}
		for _, word := range words[1:] {
			loop.Keys = append(loop.Keys, keyOf(word))
		}
		out = append(out, loop)
	}
	return out
}

// written is a rendering of spots, and behind a bar of loops.
func written(s string) shown {
	spots, loops, _ := strings.Cut(s, "|")
	return shown{spotsOf(spots), loopsOf(loops)}
}

// told is a plan as words; what is none or 0 is left out.
func told(p api.Plan) string {
	var out []string
	for i, pair := range p.Kept {
		if i == 0 {
			out = append(out, "kept")
		}
		out = append(out, fmt.Sprintf("%d=%d", pair[0], pair[1]))
	}
	add := func(word string, list []int) {
		if len(list) > 0 {
			out = append(out, word, strings.Trim(fmt.Sprint(list), "[]"))
		}
	}
	add("gone", p.Gone)
	add("new", p.New)
	n := p.Counts
	for i, count := range []int{n.Created, n.Placed, n.Moved, n.Removed, n.Freed, n.Attrs, n.Texts} {
		if count != 0 {
			out = append(out, strings.Fields("created placed moved removed freed attrs texts")[i], strconv.Itoa(count))
		}
	}
	return strings.Join(out, " ")
}

// cut is what may be long, for a message.
func cut(x any) string {
	s := fmt.Sprintf("%+v", x)
	if len(s) > 1500 {
		return s[:1000] + " .. " + s[len(s)-400:]
	}
	return s
}

// expectTold holds the plan against its words, and against the second way and P18.2.
func expectTold(t *testing.T, a, b shown, want string) {
	t.Helper()
	plan, code := least(a, b)
	if got := told(plan); code != api.OK || got != want {
		t.Errorf("%s, %d, want %s", got, code, want)
	}
	expectAsked(t, a, b)
}

const (
	list   = `<for each="x" :in="l" :key="x"><b>{{ x }}</b></for>`
	nested = `<for each="x" :in="l" :key="x.k"><p><for each="y" :in="x.l" :key="y"><q/></for></p></for>`
	rowed  = `<ul><for each="x" :in="l" :key="x.k"><li :a="x.v" b="1">{{ x.v }}</li></for></ul>`
)

// TestP18_1Traces: two traces of one core.
func TestP18_1Traces(t *testing.T) {
	for _, c := range []struct{ s, old, fresh, want string }{
		// Texts.
		{`{{ v }}`, `{"v": 1}`, `{"v": 2}`, "kept 0=0 texts 1"},
		{`{{ v }}`, `{"v": 1}`, `{"v": "1"}`, "kept 0=0"},
		{`{{ v }}`, `{"v": null}`, `{"v": ""}`, "kept 0=0"},
		{`a{{ v }}`, `{"v": ""}`, `{"v": "b"}`, "kept 0=0 texts 1"},
		{`<p>{{ v }}</p>{{ w }}<p>{{ w }}</p>`, `{"v": 1, "w": 2}`, `{"v": 1, "w": 3}`, "kept 0=0 1=1 2=2 3=3 4=4 texts 2"},
		// Attributes.
		{`<p :a="v"/>`, `{"v": 1}`, `{"v": 2}`, "kept 0=0 attrs 1"},
		{`<p :a="v"/>`, `{"v": 1}`, `{"v": "1"}`, "kept 0=0"},
		{`<p :a="v"/>`, `{"v": null}`, `{"v": true}`, "kept 0=0 attrs 1"},
		{`<p :a="v"/>`, `{"v": ""}`, `{"v": true}`, "kept 0=0"},
		{`<p :a="v"/>`, `{"v": null}`, `{"v": false}`, "kept 0=0"},
		{`<p :a="v" b="1" :c="w"/>`, `{"v": 1, "w": null}`, `{"v": null, "w": 1}`, "kept 0=0 attrs 2"},
		{`<p b="1" :c="v"><q :c="v"/></p>`, `{"v": 1}`, `{"v": 2}`, "kept 0=0 1=1 attrs 2"},
		// What comes and goes: at the top and in an element, at the front, in the middle and at the end.
		{`<if :test="v">x</if><p/>`, `{"v": true}`, `{"v": false}`, "kept 1=0 gone 0 removed 1 freed 1"},
		{`y<if :test="v"><i/></if><p/>`, `{"v": true}`, `{"v": false}`, "kept 0=0 2=1 gone 1 removed 1 freed 1"},
		{`<p/><if :test="v">x</if>`, `{"v": true}`, `{"v": false}`, "kept 0=0 gone 1 removed 1 freed 1"},
		{`<p><if :test="v"><i>x</i></if><u/></p>`, `{"v": false}`, `{"v": true}`, "kept 0=0 1=3 new 1 created 2 placed 1"},
		{`<p>x<if :test="v"><i>x</i>y</if><u/></p>`, `{"v": false}`, `{"v": true}`, "kept 0=0 1=1 2=5 new 2 4 created 3 placed 2"},
		{`<p>x<if :test="v"><i>x</i></if></p>`, `{"v": false}`, `{"v": true}`, "kept 0=0 1=1 new 2 created 2 placed 1"},
		{`<if :test="v"><p><q>x</q><q/></p></if>`, `{"v": true}`, `{"v": false}`, "gone 0 removed 1 freed 4"},
		{`<if :test="v"><p>x</p></if><else><p>x</p></else>`, `{"v": true}`, `{"v": false}`, "gone 0 new 0 created 2 placed 1 removed 1 freed 2"},
		{`<p :a="v"><if :test="v"><q/></if><else>x<u>y</u></else>{{ v }}</p>`, `{"v": true}`, `{"v": false}`, "kept 0=0 2=4 gone 1 new 1 2 created 3 placed 2 removed 1 freed 1 attrs 1 texts 1"},
		// Loops.
		{list, `{"l": []}`, `{"l": []}`, ""},
		{list, `{"l": []}`, `{"l": [1, 2]}`, "new 0 2 created 4 placed 2"},
		{list, `{"l": [1, 2]}`, `{"l": []}`, "gone 0 2 removed 2 freed 4"},
		{list, `{"l": [1, 2, 3]}`, `{"l": [3, 1, 2]}`, "kept 0=2 1=3 2=4 3=5 4=0 5=1 moved 1"},
		{list, `{"l": [1, 2, 3]}`, `{"l": [3, 2, 1]}`, "kept 0=4 1=5 2=2 3=3 4=0 5=1 moved 2"},
		{list, `{"l": [1, 2, 3]}`, `{"l": [1, 3]}`, "kept 0=0 1=1 4=2 5=3 gone 2 removed 1 freed 2"},
		{list, `{"l": [1, 3]}`, `{"l": [0, 1, 2, 3, 4]}`, "kept 0=2 1=3 2=6 3=7 new 0 4 8 created 6 placed 3"},
		{list, `{"l": [1]}`, `{"l": ["1"]}`, "gone 0 new 0 created 2 placed 1 removed 1 freed 2"},
		{list, `{"l": [1, 2, 3, 4]}`, `{"l": [4, 5, 1, 3]}`, "kept 0=4 1=5 4=6 5=7 6=0 7=1 gone 2 new 2 created 2 placed 1 moved 1 removed 1 freed 2"},
		{"a" + list + list, `{"l": [1, 2]}`, `{"l": [2, 1]}`, "kept 0=0 1=3 2=4 3=1 4=2 5=7 6=8 7=5 8=6 moved 2"},
		{rowed, `{"l": [{"k": 1, "v": "a"}, {"k": "x", "v": "b"}]}`, `{"l": [{"k": "x", "v": "a"}, {"k": 1, "v": "a"}]}`, "kept 0=0 1=3 2=4 3=1 4=2 moved 1 attrs 1 texts 1"},
		// Loops in one another.
		{nested, `{"l": [{"k": 1, "l": [1, 2]}, {"k": 2, "l": [1, 2]}]}`, `{"l": [{"k": 2, "l": [2, 1]}, {"k": 1, "l": [2, 1]}]}`, "kept 0=3 1=5 2=4 3=0 4=2 5=1 moved 3"},
		{nested, `{"l": [{"k": 1, "l": [1]}, {"k": 2, "l": []}]}`, `{"l": [{"k": 1, "l": []}, {"k": 2, "l": [1]}]}`, "kept 0=0 2=1 gone 1 new 2 created 1 placed 1 removed 1 freed 1"},
		{nested, `{"l": [{"k": 1, "l": [1, 2]}, {"k": 2, "l": [3, 4]}]}`, `{"l": [{"k": 2, "l": [4, 3]}, {"k": 3, "l": [2, 1]}]}`, "kept 3=0 4=2 5=1 gone 0 new 3 created 3 placed 1 moved 1 removed 1 freed 3"},
		// A loop in one list alone.
		{`<p><if :test="v">` + list + `</if></p>`, `{"v": true, "l": [1, 2]}`, `{"v": false, "l": [2, 1]}`, "kept 0=0 gone 1 3 removed 2 freed 4"},
		{`<p><if :test="v">` + list + `</if></p>`, `{"v": true, "l": []}`, `{"v": false, "l": [2, 1]}`, "kept 0=0"},
		{`<if :test="v">` + list + `</if><else>` + list + `</else>`, `{"v": true, "l": [1]}`, `{"v": false, "l": [1]}`, "gone 0 new 0 created 2 placed 1 removed 1 freed 2"},
	} {
		cs := template(t, c.s)
		expectTold(t, traced(t, cs, c.old), traced(t, cs, c.fresh), c.want)
	}
}

// TestP18_1Deep: a trace with as many loops around one another as there may be.
func TestP18_1Deep(t *testing.T) {
	s := strings.Repeat(`<for each="x" at="i" :in="l" :key="x"><p>`, api.MaxLoops) + `{{ x }}` + strings.Repeat(`</p></for>`, api.MaxLoops)
	cs := template(t, s)
	one, two := traced(t, cs, `{"l": [1, 2]}`), traced(t, cs, `{"l": [2, 1]}`)
	plan, code := least(one, two)
	// There are 2 ps of the first loop, 4 of the second and so on, and a text in each of the 256 innermost; of 255 loops each moves one.
	if code != api.OK || len(plan.Kept) != 510+256 || plan.Counts != (api.Counts{Moved: 255}) || len(plan.Gone)+len(plan.New) != 0 {
		t.Errorf("%d, %d, %v", code, len(plan.Kept), plan.Counts)
	}
	expectAsked(t, one, two)
	expectAsked(t, one, traced(t, cs, `{"l": [1]}`))
}

// TestP18_1Written: renderings that need not be traces of a core.
func TestP18_1Written(t *testing.T) {
	for _, c := range []struct{ old, fresh, want string }{
		{"", "", ""},
		{"0 x", "", "gone 0 removed 1 freed 1"},
		{"", "0 x", "new 0 created 1 placed 1"},
		{"0", "0 x", "kept 0=0 texts 1"},
		{"0 x", "1 x", "gone 0 new 0 created 1 placed 1 removed 1 freed 1"},
		{"0 x; 1 y", "1 y; 0 x", "kept 0=1 1=0"},
		{"0 x; 1 y", "1 x; 0 x", "kept 0=1 1=0 texts 1"},
		// Of an origin all counts: its Node, its Loops, its Keys and their row, and their kinds.
		{"0 x; 0/_ x; 0/_/_ x; 0/a x; 0/a/_ x; 0/_/a x; 0/0 x; 0/1 x; 0/a/b x; 0/b/a x", "0/b/a x; 0/a/b x; 0/1 x; 0/0 x; 0/_/a x; 0/a/_ x; 0/a x; 0/_/_ x; 0/_ x; 0 x", "kept 0=9 1=8 2=7 3=6 4=5 5=4 6=3 7=2 8=1 9=0"},
		{"1/1/2/3/4/5/6/7/8 x", "1/1/2/3/4/5/6/7/8 x", "kept 0=0"},
		{"1/1/2/3/4/5/6/7/8 x", "1/1/2/3/4/5/6/7/9 x", "gone 0 new 0 created 1 placed 1 removed 1 freed 1"},
		{"1/1/2/3/4/5/6/7/8 x", "1/1/2/3/4/5/6/7/_ x", "gone 0 new 0 created 1 placed 1 removed 1 freed 1"},
		{"1/1/2/3/4/5/6/7/_ x", "1/1/2/3/4/5/6/7 x", "gone 0 new 0 created 1 placed 1 removed 1 freed 1"},
		// What is not kept, below what is, below what is not, and at the top.
		{"0 <p>; 1@0 <q>; 2@1 x", "0 <p>", "kept 0=0 gone 1 removed 1 freed 2"},
		{"0 <p>; 1@0 <q>; 2@1 x", "0 <p>; 1@0 <q>", "kept 0=0 1=1 gone 2 removed 1 freed 1"},
		{"0 <p>; 1@0 <q>; 2@1 x", "", "gone 0 removed 1 freed 3"},
		{"0 <p>; 1@0 <q>; 2@1 <r>; 3@2 <s>; 4@3 x", "2 <r>; 1 <q>", "kept 1=1 2=0 gone 0 3 removed 2 freed 3"},
		// What is kept may lie below what is not, and elsewhere than it lay.
		{"0 <p>; 1@0 x", "2 <q>; 1@0 x", "kept 1=1 gone 0 new 0 created 1 placed 1 removed 1 freed 1"},
		{"0 <p>; 1@0 <q>; 2@1 x", "1 <q>", "kept 1=0 gone 0 2 removed 2 freed 2"},
		{"0 <p>; 1@0 <q>", "1 <q>; 0@0 <p>", "kept 0=1 1=0"},
		{"0 <p>; 1 <q>; 2@0 x; 3@1 y; 4@0 z", "0 <p>; 1 <q>; 4@1 z; 3@0 y; 5@1 w; 6@0 v", "kept 0=0 1=1 3=3 4=2 gone 2 new 4 5 created 2 placed 2 removed 1 freed 1"},
		// Attributes: their values are not the same, or they are in one alone.
		{"0 <p a=1>", "0 <p a=2>", "kept 0=0 attrs 1"},
		{"0 <p a=1>", "0 <p>", "kept 0=0 attrs 1"},
		{"0 <p a=>", "0 <p>", "kept 0=0 attrs 1"},
		{"0 <p a=1>", "0 <p b=1>", "kept 0=0 attrs 2"},
		{"0 <p a=1 b=2 c=3>", "0 <p a=1 b=2 c=3>", "kept 0=0"},
		{"0 <p a=1 b=2 c=3>", "0 <p b=2 c=4 d=5>", "kept 0=0 attrs 3"},
		{"0 <p a=1 c=3 e=5>", "0 <p b=1 d=3>", "kept 0=0 attrs 5"},
		{"0 <p a=1 b=2>; 1@0 <q a=1>", "0 <p a=2 b=1>; 1@0 <q a=2>", "kept 0=0 1=1 attrs 3"},
		{"0 <p a=1>", "1 <p a=2>", "gone 0 new 0 created 1 placed 1 removed 1 freed 1"},
		// Loops: just those that are in both count.
		{"|0", "|0", ""},
		{"|0", "|0 a b", ""},
		{"|0 a b c", "|0 c a b", "moved 1"},
		{"|0 a b c", "|0 c b a", "moved 2"},
		{"|0 a b c", "|1 c b a", ""},
		{"|0 a b c", "|0/_ c b a", ""},
		{"|0 a b", "|", ""},
		{"|0 a 1; 1 a 1", "|1 1 a; 0 1 a", "moved 2"},
		{"|0/x a b; 0/y a b; 0/z a b", "|0/y b a; 0/w b a; 0/z a b", "moved 1"},
		{"|0 _ 0 a", "|0 a 0 _", "moved 2"},
		{"|2/1/2/3/4/5/6/7/8 a b", "|2/1/2/3/4/5/6/7/8 b a", "moved 1"},
		// A spot and a loop may have one origin; loops count, though no spot has their keys.
		{"0 x; 1/a <p>|0 a b; 1/a a b", "1/a <p>; 0 y|1/a b a; 0 b c", "kept 0=1 1=0 moved 1 texts 1"},
	} {
		expectTold(t, written(c.old), written(c.fresh), c.want)
	}
}

// TestP18_1Any: of tags, names, values, texts and keys the chapter asks nothing but what it says.
func TestP18_1Any(t *testing.T) {
	long := strings.Repeat("x", 2*api.MaxStr)
	attrs := func(values ...string) []api.Attr {
		var out []api.Attr
		for i, value := range values {
			out = append(out, api.Attr{Name: []string{"", "\x00", "A", "a", "a ", "aa", "é", "\xff"}[i], Value: value})
		}
		return out
	}
	big := 1<<62 + 5
	olds := []api.Spot{{Parent: -1, Tag: "P", Attrs: attrs("", "\xff", "", "", "", "", "", "")}, {Origin: api.Origin{Node: big}, Parent: -1, Text: "\xff"}, {Origin: api.Origin{Node: 1}, Parent: 0, Text: long}}
	news := []api.Spot{{Parent: -1, Tag: "P", Attrs: attrs("", "", "1", "", long, "", "", "\xff")}, {Origin: api.Origin{Node: big}, Parent: 0, Text: "\xfe"}, {Origin: api.Origin{Node: 1}, Parent: -1, Text: long + "x"}}
	strange := []api.Key{{Kind: -1}, {Kind: 9, Int: 1, Str: "a"}, {Kind: api.KInt, Str: "a"}, {Kind: api.KStr, Int: 1}, {Int: 1}, {Str: "\xff"}, {Kind: api.KStr, Str: long}, {}}
	o := api.Origin{Node: big, Loops: api.MaxLoops}
	copy(o.Keys[:], strange)
	olds, news = append(olds, api.Spot{Origin: o, Parent: -1}), append(news, api.Spot{Origin: o, Parent: -1})
	back := make([]api.Key, len(strange))
	for i, key := range strange {
		back[len(back)-1-i] = key
	}
	expectTold(t, shown{olds, []api.Loop{{Origin: o, Keys: strange}}}, shown{news, []api.Loop{{Origin: o, Keys: back}}}, "kept 0=0 1=1 2=2 3=3 moved 7 attrs 4 texts 2")
}
