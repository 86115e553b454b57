package patch

import (
	"math"
	"slices"
	"testing"

	"stencil/api"
)

// fine is a rendering that may be, in which each sentence can be broken: spot 0 an element with attributes, 1 a text in it, 2 an element in it, 3 a text of full loops in 2, 4 a text at the top; loop 0 with keys, 1 of full loops, 2 without keys.
func fine() shown {
	return written("0 <p a=1 b=2 c=3>; 1@0 x; 2/k@0 <q>; 3/1/2/3/4/5/6/7/8@2 y; 4 z|5 a 1 b; 6/1/2/3/4/5/6/7/8 a; 7/k")
}

// slip breaks one sentence of what fine is.
type slip struct {
	name  string
	wrong func(r *shown)
}

// originSlips are what can be wrong of an origin by itself; of is the one that is broken, which has one key.
func originSlips(where string, of func(r *shown) *api.Origin) []slip {
	out := []slip{
		{where + " Node -1", func(r *shown) { of(r).Node = -1 }},
		{where + " Node least", func(r *shown) { of(r).Node = math.MinInt }},
		// No key stands there, so that Loops alone is wrong.
		{where + " Loops -1", func(r *shown) { *of(r) = api.Origin{Node: 90, Loops: -1} }},
		{where + " Loops least", func(r *shown) { *of(r) = api.Origin{Node: 90, Loops: math.MinInt} }},
		{where + " Loops 9", func(r *shown) { of(r).Loops = api.MaxLoops + 1 }},
		{where + " Loops 10", func(r *shown) { of(r).Loops = api.MaxLoops + 2 }},
		{where + " Loops greatest", func(r *shown) { of(r).Loops = math.MaxInt }},
		{where + " Loops 0", func(r *shown) { of(r).Loops = 0 }},
	}
	for name, key := range map[string]api.Key{"Kind": {Kind: api.KInt}, "odd Kind": {Kind: -1}, "Int": {Int: 1}, "Str": {Str: "a"}, "all": {Kind: api.KStr, Int: 1, Str: "a"}} {
		for place := 1; place < api.MaxLoops; place++ {
			out = append(out, slip{where + " stray " + name, func(r *shown) { of(r).Keys[place] = key }})
		}
	}
	return out
}

// slips are all that can be wrong of a rendering.
func slips() []slip {
	out := []slip{
		{"an origin twice, side by side", func(r *shown) { r.spots = append(r.spots, r.spots[4]) }},
		{"an origin twice, far from itself", func(r *shown) { r.spots = append(r.spots, r.spots[0]) }},
		{"an origin twice, of a text and an element", func(r *shown) { r.spots[4].Origin = r.spots[2].Origin }},
		{"an origin twice, of two texts", func(r *shown) { r.spots[1].Origin = r.spots[3].Origin }},
		{"an origin twice, elsewhere", func(r *shown) {
			r.spots = append(r.spots, api.Spot{Origin: r.spots[1].Origin, Parent: 2, Text: "w"})
		}},
		{"a loop twice", func(r *shown) { r.loops = append(r.loops, r.loops[2]) }},
		{"a loop twice, far from itself", func(r *shown) { r.loops = append(r.loops, r.loops[0]) }},
		{"a loop twice, with other keys", func(r *shown) { r.loops[2].Origin = r.loops[0].Origin }},
		{"a text ahead as parent", func(r *shown) { r.spots[4].Parent = 1 }},
		{"an element behind as parent", func(r *shown) { r.spots[1].Parent = 2 }},
		{"itself as parent", func(r *shown) { r.spots[2].Parent = 2 }},
		{"the first in itself", func(r *shown) { r.spots[0].Parent = 0 }},
		{"parent -2", func(r *shown) { r.spots[4].Parent = -2 }},
		{"the least parent", func(r *shown) { r.spots[4].Parent = math.MinInt }},
		{"the end as parent", func(r *shown) { r.spots[4].Parent = 5 }},
		{"behind the end as parent", func(r *shown) { r.spots[4].Parent = 6 }},
		{"the greatest parent", func(r *shown) { r.spots[4].Parent = math.MaxInt }},
		{"the first at -2", func(r *shown) { r.spots[0].Parent = -2 }},
		{"an element with a text", func(r *shown) { r.spots[0].Text = "x" }},
		{"an inner element with a text", func(r *shown) { r.spots[2].Text = " " }},
		{"a text with an attribute", func(r *shown) { r.spots[1].Attrs = []api.Attr{{Name: "a", Value: "1"}} }},
		{"a text with an empty attribute", func(r *shown) { r.spots[4].Attrs = []api.Attr{{}} }},
		{"attributes that fall at the front", func(r *shown) { r.spots[0].Attrs[0].Name = "bb" }},
		{"attributes that fall at the end", func(r *shown) { r.spots[0].Attrs[2].Name = "ab" }},
		{"attributes that fall by a capital", func(r *shown) { r.spots[0].Attrs[1].Name = "B" }},
		{"a name twice at the front", func(r *shown) { r.spots[0].Attrs[0].Name = "b" }},
		{"a name twice at the end", func(r *shown) { r.spots[0].Attrs[2] = r.spots[0].Attrs[1] }},
		{"a name twice at the ends", func(r *shown) { r.spots[0].Attrs[2].Name = "a" }},
		{"no name twice", func(r *shown) { r.spots[2].Attrs = []api.Attr{{Value: "1"}, {Value: "2"}} }},
		{"a key twice at the front", func(r *shown) { r.loops[0].Keys[1] = r.loops[0].Keys[0] }},
		{"a key twice at the end", func(r *shown) { r.loops[0].Keys[2] = r.loops[0].Keys[1] }},
		{"a key twice at the ends", func(r *shown) { r.loops[0].Keys = append(r.loops[0].Keys, r.loops[0].Keys[0]) }},
		{"the zero key twice", func(r *shown) { r.loops[2].Keys = make([]api.Key, 2) }},
		{"a key twice in another loop", func(r *shown) { r.loops[1].Keys = append(r.loops[1].Keys, r.loops[1].Keys[0]) }},
		{"a key twice in a loop of its own", func(r *shown) { r.loops = append(r.loops, loopsOf("70 a b a")...) }},
	}
	out = append(out, originSlips("a spot's", func(r *shown) *api.Origin { return &r.spots[2].Origin })...)
	out = append(out, originSlips("a loop's", func(r *shown) *api.Origin { return &r.loops[2].Origin })...)
	out = append(out, originSlips("a text's", func(r *shown) *api.Origin { r.spots[4].Origin = originOf("4/k"); return &r.spots[4].Origin })...)
	return out
}

func expectRefused(t *testing.T, name string, a, b shown) {
	t.Helper()
	plan, code := least(a, b)
	if code != api.ErrPatchSpots || !samePlan(plan, api.Plan{}) {
		t.Errorf("%s: %s, %d", name, told(plan), code)
	}
	if _, asked := askedLeast(a, b); asked != api.ErrPatchSpots {
		t.Errorf("%s may be", name)
	}
}

// TestP18_1Refused: each sentence broken alone, in the old rendering, in the new one and in both.
func TestP18_1Refused(t *testing.T) {
	expectTold(t, fine(), fine(), "kept 0=0 1=1 2=2 3=3 4=4")
	all := slips()
	if len(all) < 150 {
		t.Fatal(len(all))
	}
	others := []shown{fine(), {}, written("80 x|81 a b"), written("4 y; 0 <p>|7/k a")}
	for _, one := range all {
		bad := fine()
		one.wrong(&bad)
		for _, other := range others {
			expectRefused(t, one.name+", old", bad, other)
			expectRefused(t, one.name+", new", other, bad)
		}
		expectRefused(t, one.name+", both", bad, bad)
	}
	for i, one := range all {
		bad, other := fine(), fine()
		one.wrong(&bad)
		all[len(all)-1-i].wrong(&other)
		expectRefused(t, one.name+", and another", bad, other)
	}
}

// TestP18_1Tags: two spots of one origin have not the same Tag.
func TestP18_1Tags(t *testing.T) {
	for _, c := range []struct{ old, fresh string }{
		{"0 <p>", "0 <q>"}, {"0 <p>", "0 <P>"}, {"0 <p>", "0 <pp>"}, {"0 <p>", "0"}, {"0", "0 <p>"}, {"0 x", "0 <x>"},
		{"0 <p>; 1 x", "1 x; 0 <q>"}, {"0 <p>; 1@0 <q>; 2@1 x", "0 <p>; 1@0 <q>; 2@1 <x>"}, {"0/a <p>; 0/b <p>", "0/b <p>; 0/a <q>"}, {"0/a <p>; 0/b <p>", "0/b <q>; 0/a <p>"},
		{"0 <p>; 1@0 <r>; 2 <p>", "3 <p>; 1@0 <q>"}, {"0/1/2/3/4/5/6/7/8 <p>", "0/1/2/3/4/5/6/7/8 <q>"},
	} {
		expectRefused(t, c.old+" to "+c.fresh, written(c.old), written(c.fresh))
		expectRefused(t, c.fresh+" to "+c.old, written(c.fresh), written(c.old))
	}
	// Of other origins, another Tag is none; nor is that of a loop of one origin with a spot.
	expectTold(t, written("0 <p>; 1 <q>"), written("1 <q>; 0/a <q>"), "kept 1=0 gone 0 new 1 created 1 placed 1 removed 1 freed 1")
	expectTold(t, written("0 <p>|1 a"), written("1 <q>|0 a"), "gone 0 new 0 created 1 placed 1 removed 1 freed 1")
}

// TestP18_1Edges: what stands just beside what is refused.
func TestP18_1Edges(t *testing.T) {
	for name, change := range map[string]func(r *shown){
		"Node 0":                 func(r *shown) { r.loops[0].Origin.Node = 0 },
		"the greatest Node":      func(r *shown) { r.spots[4].Origin.Node, r.loops[0].Origin.Node = math.MaxInt, math.MaxInt },
		"Loops 0":                func(r *shown) { r.spots[2].Origin, r.loops[2].Origin = originOf("2"), originOf("7") },
		"Loops 8, zero keys":     func(r *shown) { r.spots[2].Origin.Loops, r.loops[2].Origin.Loops = api.MaxLoops, api.MaxLoops },
		"the last key":           func(r *shown) { r.spots[3].Origin.Keys[7].Str, r.loops[1].Origin.Keys[7].Int = "z", 9 },
		"the element ahead":      func(r *shown) { r.spots[4].Parent = 2 },
		"an element at the top":  func(r *shown) { r.spots[2].Parent = -1 },
		"an empty text":          func(r *shown) { r.spots[1].Text = "" },
		"no attributes":          func(r *shown) { r.spots[0].Attrs = nil },
		"empty lists":            func(r *shown) { r.spots[1].Attrs, r.loops[2].Keys = []api.Attr{}, []api.Key{} },
		"one attribute, no name": func(r *shown) { r.spots[0].Attrs = []api.Attr{{}} },
		"names by their bytes":   func(r *shown) { r.spots[0].Attrs[0].Name, r.spots[0].Attrs[1].Name = "B", "Z" },
		"a longer name":          func(r *shown) { r.spots[0].Attrs[1].Name = "a\x00" },
		"one value":              func(r *shown) { r.spots[0].Attrs[1].Value = "1" },
		"a key of another kind":  func(r *shown) { r.loops[0].Keys[2] = api.Key{Kind: api.KStr, Str: "1"} },
		"the zero key":           func(r *shown) { r.loops[0].Keys[2] = api.Key{} },
		"keys of another loop":   func(r *shown) { r.loops[1].Keys = slices.Clone(r.loops[0].Keys) },
		"a spot's origin":        func(r *shown) { r.loops[2].Origin = r.spots[2].Origin },
		"no spots":               func(r *shown) { r.spots = nil },
		"no loops":               func(r *shown) { r.loops = nil },
	} {
		one := fine()
		change(&one)
		for _, other := range []shown{fine(), {}, one} {
			if code := expectAsked(t, one, other); code != api.OK {
				t.Errorf("%s: %d", name, code)
			}
		}
	}
}
