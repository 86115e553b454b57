package patch

import (
	"maps"
	"slices"
	"strings"
	"testing"

	"stencil/api"
)

// The document said a second time, sentence by sentence, with each thing held against each.

func sameOrigin(a, b api.Origin) bool {
	for i := range a.Keys {
		if a.Keys[i].Kind != b.Keys[i].Kind || a.Keys[i].Int != b.Keys[i].Int || strings.Compare(a.Keys[i].Str, b.Keys[i].Str) != 0 {
			return false
		}
	}
	return a.Node == b.Node && a.Loops == b.Loops
}

// twice tells whether two of a list are the same.
func twice[T any](list []T, same func(a, b T) bool) bool {
	for i := range list {
		for j := range i {
			if same(list[i], list[j]) {
				return true
			}
		}
	}
	return false
}

// askedOrigin is what is asked of an origin by itself.
func askedOrigin(o api.Origin) bool {
	loops := 0
	for loops <= api.MaxLoops && loops != o.Loops {
		loops++
	}
	if o.Node <= -1 || loops > api.MaxLoops {
		return false
	}
	for i, key := range o.Keys {
		if i >= loops && (key.Kind != 0 || key.Int != 0 || len(key.Str) != 0) {
			return false
		}
	}
	return true
}

// askedSpot is what is asked of a spot, with those ahead of it.
func askedSpot(ahead []api.Spot, spot api.Spot) bool {
	holders := []int{-1}
	for i, other := range ahead {
		if other.Tag != "" {
			holders = append(holders, i)
		}
	}
	var names []string
	for _, attr := range spot.Attrs {
		names = append(names, attr.Name)
	}
	rising := slices.IsSorted(names) && len(slices.Compact(slices.Clone(names))) == len(names)
	wrongText, wrongAttrs := spot.Tag != "" && spot.Text != "", spot.Tag == "" && len(spot.Attrs) != 0
	return slices.Contains(holders, spot.Parent) && askedOrigin(spot.Origin) && rising && !wrongText && !wrongAttrs
}

func askedMayBe(r shown) bool {
	for i, spot := range r.spots {
		if !askedSpot(r.spots[:i], spot) {
			return false
		}
	}
	for _, loop := range r.loops {
		if !askedOrigin(loop.Origin) || twice(loop.Keys, func(a, b api.Key) bool { return a == b }) {
			return false
		}
	}
	return !twice(r.spots, func(a, b api.Spot) bool { return sameOrigin(a.Origin, b.Origin) }) && !twice(r.loops, func(a, b api.Loop) bool { return sameOrigin(a.Origin, b.Origin) })
}

// placeOf is the place of the spot of an origin, or -1.
func placeOf(o api.Origin, spots []api.Spot) int {
	return slices.IndexFunc(spots, func(spot api.Spot) bool { return sameOrigin(spot.Origin, o) })
}

// askedTops are the places of the spots that the others have not, in a spot that they have, or in none.
func askedTops(spots, others []api.Spot) []int {
	var out []int
	for i, spot := range spots {
		if placeOf(spot.Origin, others) == -1 && (spot.Parent == -1 || placeOf(spots[spot.Parent].Origin, others) != -1) {
			out = append(out, i)
		}
	}
	return out
}

// askedMoved is how many of the keys that two lists share are not in a longest row that rises in both: the best that ends with each key, found by looking at all ahead of it.
func askedMoved(olds, news []api.Key) int {
	kept, longest, best := 0, 0, make([]int, len(news))
	for i, key := range news {
		at := slices.Index(olds, key)
		if at == -1 {
			continue
		}
		kept++
		for j, other := range news[:i] {
			if ahead := slices.Index(olds, other); ahead != -1 && ahead < at {
				best[i] = max(best[i], best[j])
			}
		}
		best[i]++
		longest = max(longest, best[i])
	}
	return kept - longest
}

// askedAttrs is how many names are not told alike by both.
func askedAttrs(olds, news []api.Attr) int {
	values := func(attrs []api.Attr) map[string]string {
		out := map[string]string{}
		for _, attr := range attrs {
			out[attr.Name] = attr.Value
		}
		return out
	}
	a, b := values(olds), values(news)
	all := maps.Clone(a)
	maps.Copy(all, b)
	count := 0
	for name := range all {
		value, held := a[name]
		other, also := b[name]
		if !held || !also || value != other {
			count++
		}
	}
	return count
}

// askedLeast is what P18.1 says of two renderings.
func askedLeast(a, b shown) (api.Plan, api.Errno) {
	if !askedMayBe(a) || !askedMayBe(b) {
		return api.Plan{}, api.ErrPatchSpots
	}
	p := api.Plan{Gone: askedTops(a.spots, b.spots), New: askedTops(b.spots, a.spots)}
	for i, spot := range a.spots {
		at := placeOf(spot.Origin, b.spots)
		if at == -1 {
			p.Counts.Freed++
			continue
		}
		p.Kept = append(p.Kept, [2]int{i, at})
		switch other := b.spots[at]; {
		case spot.Tag != other.Tag:
			return api.Plan{}, api.ErrPatchSpots
		case spot.Tag != "":
			p.Counts.Attrs += askedAttrs(spot.Attrs, other.Attrs)
		case spot.Text != other.Text:
			p.Counts.Texts++
		}
	}
	for _, spot := range b.spots {
		if placeOf(spot.Origin, a.spots) == -1 {
			p.Counts.Created++
		}
	}
	p.Counts.Placed, p.Counts.Removed = len(p.New), len(p.Gone)
	for _, loop := range a.loops {
		for _, other := range b.loops {
			if sameOrigin(loop.Origin, other.Origin) {
				p.Counts.Moved += askedMoved(loop.Keys, other.Keys)
			}
		}
	}
	return p, api.OK
}

func samePlan(a, b api.Plan) bool {
	return slices.Equal(a.Kept, b.Kept) && slices.Equal(a.Gone, b.Gone) && slices.Equal(a.New, b.New) && a.Counts == b.Counts
}

// expectAsked holds Least against the second way and, where there is a plan, against P18.2; it answers the code that it told.
func expectAsked(t *testing.T, a, b shown) api.Errno {
	t.Helper()
	plan, code := least(a, b)
	want, asked := askedLeast(a, b)
	if code != asked || !samePlan(plan, want) {
		t.Fatalf("%s, %d, want %s, %d: %s, %s", told(plan), code, told(want), asked, cut(a), cut(b))
	}
	expectLaws(t, a, b)
	return code
}
