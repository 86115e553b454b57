package patch

import (
	"slices"
	"testing"

	"stencil/api"
)

// expectLaws holds what P18.2 says of two renderings.
func expectLaws(t *testing.T, a, b shown) {
	t.Helper()
	plan, code := least(a, b)
	back, turned := least(b, a)
	if code != turned {
		t.Fatalf("%d, turned round %d: %s, %s", code, turned, cut(a), cut(b))
	}
	if code != api.OK {
		if code != api.ErrPatchSpots || !samePlan(plan, api.Plan{}) || !samePlan(back, api.Plan{}) {
			t.Fatalf("%s, %s beside %d", told(plan), told(back), code)
		}
		return
	}
	n, m := plan.Counts, back.Counts
	if n.Created-n.Freed != len(b.spots)-len(a.spots) {
		t.Fatalf("%d more spots: %s", len(b.spots)-len(a.spots), told(plan))
	}
	exchanged := api.Counts{Created: n.Freed, Placed: n.Removed, Moved: n.Moved, Removed: n.Placed, Freed: n.Created, Attrs: n.Attrs, Texts: n.Texts}
	if !slices.Equal(plan.Gone, back.New) || !slices.Equal(plan.New, back.Gone) || m != exchanged {
		t.Fatalf("%s, turned round %s", told(plan), told(back))
	}
	pairs := slices.Clone(back.Kept)
	for i, pair := range pairs {
		pairs[i] = [2]int{pair[1], pair[0]}
	}
	slices.SortFunc(pairs, func(a, b [2]int) int { return a[0] - b[0] })
	if !slices.Equal(plan.Kept, pairs) {
		t.Fatalf("%s, turned round %s", told(plan), told(back))
	}
	expectItself(t, a)
	expectItself(t, b)
}

// expectItself holds that all of a rendering is kept, where it comes to itself.
func expectItself(t *testing.T, r shown) {
	t.Helper()
	plan, code := least(r, r)
	if code != api.OK || len(plan.Kept) != len(r.spots) || len(plan.Gone)+len(plan.New) != 0 || plan.Counts != (api.Counts{}) {
		t.Fatalf("%s, %d: %s", told(plan), code, cut(r))
	}
	for i, pair := range plan.Kept {
		if pair != [2]int{i, i} {
			t.Fatalf("%s: %s", told(plan), cut(r))
		}
	}
}

// TestP18_2Itself: a rendering and itself, and one and its equal of other memory.
func TestP18_2Itself(t *testing.T) {
	for _, s := range []string{"", "0 x", "0 <p a=1 b=>; 1@0 x; 2@0 <q>; 3/a@2 y; 3/1@2|4 a 1; 5/a 2; 5/1", "|0", "|0 a b"} {
		expectItself(t, written(s))
		expectLaws(t, written(s), written(s))
		plan, code := least(written(s), written(s))
		if code != api.OK || plan.Counts != (api.Counts{}) || len(plan.Kept) != len(written(s).spots) {
			t.Errorf("%s: %s, %d", s, told(plan), code)
		}
	}
	for _, s := range []string{rowed, "a" + rowed + "{{ l[0].v }}"} {
		cs := template(t, s)
		one := traced(t, cs, `{"l": [{"k": 1, "v": "a"}, {"k": "x", "v": true}]}`)
		expectItself(t, one)
		expectTold(t, shown{}, shown{}, "")
		expectLaws(t, one, shown{})
	}
}

// TestP18_2Turned: told by numbers, so that a fault of both ways is seen.
func TestP18_2Turned(t *testing.T) {
	a, b := written("0 <p a=1>; 1@0 x; 2@0 y; 3 z|5 a b c; 6 a b"), written("0 <p a=2 b=1>; 1@0 w; 4@0 <q>; 7@2 v; 8@2 u|5 c b a; 6/a b a")
	expectTold(t, a, b, "kept 0=0 1=1 gone 2 3 new 2 created 3 placed 1 moved 2 removed 2 freed 2 attrs 2 texts 1")
	expectTold(t, b, a, "kept 0=0 1=1 gone 2 new 2 3 created 2 placed 2 moved 2 removed 1 freed 3 attrs 2 texts 1")
}

// expectWhole holds of two traces of one core that what goes and what comes are whole trees, and that what is kept lies where it lay.
func expectWhole(t *testing.T, a, b shown) {
	t.Helper()
	plan, _ := least(a, b)
	below := func(spots []api.Spot, tops []int) int {
		inside := make([]bool, len(spots))
		count := 0
		for i, spot := range spots {
			inside[i] = slices.Contains(tops, i) || spot.Parent != -1 && inside[spot.Parent]
			if inside[i] {
				count++
			}
		}
		return count
	}
	if gone, fresh := below(a.spots, plan.Gone), below(b.spots, plan.New); gone != plan.Counts.Freed || fresh != plan.Counts.Created {
		t.Fatalf("%d gone, %d new: %s", gone, fresh, told(plan))
	}
	at := map[int]int{-1: -1}
	for _, pair := range plan.Kept {
		at[pair[0]] = pair[1]
		if at[a.spots[pair[0]].Parent] != b.spots[pair[1]].Parent {
			t.Fatalf("%v lies elsewhere: %s", pair, told(plan))
		}
	}
}
