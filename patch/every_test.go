package patch

import (
	"slices"
	"testing"

	"stencil/api"
)

// lists are all lists of at most most elements out of the choices, the shorter ones first.
func lists[T any](most int, choices []T) [][]T {
	out, from := [][]T{nil}, 0
	for range most {
		end := len(out)
		for _, ahead := range out[from:end] {
			for _, one := range choices {
				out = append(out, append(slices.Clip(ahead), one))
			}
		}
		from = end
	}
	return out
}

// spotChoices are all spots of these origins, parents and kinds.
func spotChoices(origins []string, parents []int, kinds []string) []api.Spot {
	var out []api.Spot
	for _, o := range origins {
		for _, parent := range parents {
			for _, kind := range kinds {
				spot := spotsOf(o + " " + kind)[0]
				spot.Parent = parent
				out = append(out, spot)
			}
		}
	}
	return out
}

// quick holds Least against the second way alone.
func quick(t *testing.T, a, b shown) api.Errno {
	plan, code := least(a, b)
	want, asked := askedLeast(a, b)
	if code != asked || !samePlan(plan, want) {
		t.Fatalf("%s, %d, want %s, %d: %s, %s", told(plan), code, told(want), asked, cut(a), cut(b))
	}
	return code
}

// TestP18EverySpots: every pair of short lists of spots, whether they may be or not.
func TestP18EverySpots(t *testing.T) {
	t.Parallel()
	met := map[api.Errno]int{}
	all := lists(2, spotChoices([]string{"0", "1"}, []int{-1, 0}, []string{"x", "y", "<p>", "<p a=1>"}))
	for _, olds := range all {
		for _, news := range all {
			met[quick(t, shown{spots: olds}, shown{spots: news})]++
		}
	}
	if met[api.OK] < 1000 || met[api.ErrPatchSpots] < 20000 {
		t.Errorf("%v", met)
	}
}

// TestP18EveryNest: every list of three spots, of one tag, in one another in every way; and all pairs of those that may be.
func TestP18EveryNest(t *testing.T) {
	t.Parallel()
	var taken []shown
	refused := 0
	for _, spots := range lists(3, spotChoices([]string{"0", "1", "2"}, []int{-1, 0, 1}, []string{"<p>"})) {
		one := shown{spots: spots}
		if expectAsked(t, one, written("1 <p>; 0@0 <p>")) == api.OK {
			taken = append(taken, one)
		} else {
			refused++
		}
	}
	for _, a := range taken {
		for _, b := range taken {
			if quick(t, a, b) != api.OK {
				t.Fatalf("%s, %s", cut(a), cut(b))
			}
		}
	}
	// The first lies in none, the second in one or none, the third in one of two or none; their origins are in any row.
	if len(taken) != 1+3+6*2+6*6 || refused == 0 {
		t.Errorf("%d, %d", len(taken), refused)
	}
}

// TestP18EveryAttrs: every pair of short lists of attributes, whether they rise or not.
func TestP18EveryAttrs(t *testing.T) {
	t.Parallel()
	var choices []api.Attr
	for _, name := range []string{"", "a", "b"} {
		choices = append(choices, api.Attr{Name: name}, api.Attr{Name: name, Value: "1"})
	}
	met := map[api.Errno]int{}
	var all [][]api.Spot
	for _, attrs := range lists(3, choices) {
		all = append(all, []api.Spot{{Parent: -1, Tag: "p", Attrs: attrs}})
	}
	for _, olds := range all {
		for _, news := range all {
			met[quick(t, shown{spots: olds}, shown{spots: news})]++
		}
	}
	// Each of three names has one of two values or is not there.
	if met[api.OK] != 27*27 || met[api.ErrPatchSpots] != 259*259-27*27 {
		t.Errorf("%v", met)
	}
}

// TestP18EveryLoops: every pair of short lists of loops, and of short lists of keys of one loop, whether they may be or not.
func TestP18EveryLoops(t *testing.T) {
	t.Parallel()
	met := map[api.Errno]int{}
	var choices []api.Loop
	for _, keys := range lists(2, []api.Key{keyOf("1"), keyOf("a")}) {
		choices = append(choices, api.Loop{Origin: originOf("0"), Keys: keys}, api.Loop{Origin: originOf("0/a"), Keys: keys})
	}
	all := lists(2, choices)
	for _, olds := range all {
		for _, news := range all {
			met[quick(t, shown{loops: olds}, shown{loops: news})]++
		}
	}
	rows := lists(4, []api.Key{keyOf("1"), keyOf("a"), keyOf("2"), keyOf("b")})
	for _, olds := range rows {
		for _, news := range rows {
			met[quick(t, shown{loops: []api.Loop{{Keys: olds}}}, shown{loops: []api.Loop{{Keys: news}}})]++
		}
	}
	if met[api.OK] < 5000 || met[api.ErrPatchSpots] < 50000 {
		t.Errorf("%v", met)
	}
}
