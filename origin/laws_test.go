package origin

import (
	"fmt"
	"maps"
	"testing"

	"stencil/api"
	"stencil/forest"
	"stencil/render"
)

// expectLaws holds what P17.3 says of one trace.
func expectLaws(t *testing.T, spots []api.Spot, loops []api.Loop) {
	t.Helper()
	met := map[string]int{}
	for i, spot := range spots {
		name := fmt.Sprintf("%+v", spot.Origin)
		if ahead, twice := met[name]; twice {
			t.Fatalf("the origin of spot %d is that of spot %d: %s", i, ahead, name)
		}
		met[name] = i
		if spot.Parent == -1 {
			continue
		}
		if spot.Parent < 0 || spot.Parent >= i {
			t.Fatalf("spot %d lies in %d", i, spot.Parent)
		}
		around := spots[spot.Parent]
		if around.Origin.Loops > spot.Origin.Loops || around.Tag == "" {
			t.Fatalf("spot %d, %+v, lies in %+v", i, spot, around)
		}
		for k := range around.Origin.Loops {
			if around.Origin.Keys[k] != spot.Origin.Keys[k] {
				t.Fatalf("spot %d, %+v, lies in %+v", i, spot, around)
			}
		}
	}
	stood := map[string]int{}
	for i, loop := range loops {
		name := fmt.Sprintf("%+v", loop.Origin)
		if _, twice := stood[name]; twice {
			t.Fatalf("the origin of loop %d stands twice: %s", i, name)
		}
		stood[name] = i
	}
}

// expectOneTag holds that spots of one origin have one Tag, whatever the state; tags are those met so far with that core.
func expectOneTag(t *testing.T, tags map[api.Origin]string, cs []api.Core, v api.Value) {
	t.Helper()
	spots, _, _ := Trace(cs, v)
	for _, spot := range spots {
		if tag, met := tags[spot.Origin]; met && tag != spot.Tag {
			t.Fatalf("%s of %s: %s has the tag %q and %q", cut(cs), cut(v), toldOrigin(spot.Origin), tag, spot.Tag)
		}
		tags[spot.Origin] = spot.Tag
	}
}

// TestP17_3Forest: Forest of Trace is Render, whatever stands in what.
func TestP17_3Forest(t *testing.T) {
	for _, s := range []string{``, `x`, `<p>x</p>`, ahead, ahead + ahead, `<p>` + ahead + `<q a="1" :b="k">` + ahead + `</q></p>`, `<for each="y" :in="l" :key="y"><p>{{ y }}` + ahead + `</p></for>z`, `<if :test="k == 1">` + ahead + `</if><else><p>x</p></else>`} {
		for _, state := range []string{`{"l": [], "k": 1}`, `{"l": [1, "1", 2], "k": 1}`, `{"l": ["a"], "k": null}`} {
			cs, v := template(t, s), datum(t, state)
			spots, _, code := Trace(cs, v)
			want, _ := render.Render(cs, v)
			got := Forest(spots)
			if code != api.OK || !forest.Same(got, want) || forest.Count(got) != len(spots) {
				t.Errorf("%s of %s: %s, %d, want %s", s, state, cut(got), code, cut(want))
			}
		}
	}
}

// origins are those of a trace, with their tags.
func origins(t *testing.T, cs []api.Core, state string) map[api.Origin]string {
	t.Helper()
	spots, _, code := Trace(cs, datum(t, state))
	out := map[api.Origin]string{}
	for _, spot := range spots {
		out[spot.Origin] = spot.Tag
	}
	if code != api.OK || len(out) != len(spots) {
		t.Fatalf("%s of %s: %d, %d origins of %d spots", cut(cs), state, code, len(out), len(spots))
	}
	return out
}

// TestP17_3Origins: what a list's row is, its origins are the same, and what is the same in two states has one origin and one Tag.
func TestP17_3Origins(t *testing.T) {
	cs := template(t, `<for each="x" :in="l" :key="x.k"><p>{{ x.k }}<if :test="x.b"><a/></if><else><b/></else></p></for>`)
	one := origins(t, cs, `{"l": [{"k": 1, "b": true}, {"k": "1", "b": false}, {"k": 2, "b": true}]}`)
	other := origins(t, cs, `{"l": [{"k": 2, "b": true}, {"k": 1, "b": true}, {"k": "1", "b": false}]}`)
	if len(one) != 9 || !maps.Equal(one, other) {
		t.Errorf("%v, %v", one, other)
	}
	// One element is gone, one has gone the other way, one is new: of the rest the origins are in both.
	other = origins(t, cs, `{"l": [{"k": 3, "b": true}, {"k": 2, "b": false}, {"k": 1, "b": true}]}`)
	both := 0
	for o, tag := range one {
		if found, ok := other[o]; ok {
			both++
			if found != tag {
				t.Errorf("%s: %q, %q", toldOrigin(o), tag, found)
			}
		}
	}
	if both != 5 {
		t.Errorf("%d are in both", both)
	}
	// Of two loops, and of two elements of the loop around, one key is two origins.
	twice := origins(t, template(t, ahead+ahead), `{"l": [1, 2]}`)
	around := origins(t, template(t, `<for each="y" :in="l" :key="y"><p>`+ahead+`</p></for>`), `{"l": [1, 2]}`)
	if len(twice) != 10 || len(around) != 12 {
		t.Errorf("%d, %d", len(twice), len(around))
	}
}
