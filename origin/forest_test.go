package origin

import (
	"math"
	"reflect"
	"slices"
	"testing"

	"stencil/api"
	"stencil/forest"
)

// expectForest holds Forest against the second way.
func expectForest(t *testing.T, spots []api.Spot) []api.Tree {
	t.Helper()
	got, want := Forest(spots), askedForest(spots)
	if !forest.Same(got, want) {
		t.Fatalf("%s: %s, want %s", cut(spots), cut(got), cut(want))
	}
	return got
}

// expectHtml holds Forest against HTML.
func expectHtml(t *testing.T, want string, spots ...api.Spot) {
	t.Helper()
	got, code := forest.Html(expectForest(t, spots))
	if got != want || code != api.OK {
		t.Errorf("%s: %s, %d, want %s", cut(spots), got, code, want)
	}
}

func elem(parent int, tag string, attrs ...api.Attr) api.Spot {
	return api.Spot{Parent: parent, Tag: tag, Attrs: attrs}
}

func text(parent int, s string) api.Spot { return api.Spot{Parent: parent, Text: s} }

// TestP17_2Rows: spots in preorder, and in other rows with each parent ahead.
func TestP17_2Rows(t *testing.T) {
	expectHtml(t, ``)
	expectHtml(t, `x`, text(-1, "x"))
	expectHtml(t, `<a></a>`, elem(-1, "a"))
	expectHtml(t, `xy<a></a>`, text(-1, "x"), text(-1, "y"), elem(-1, "a"))
	expectHtml(t, `<a c="1" d="">x</a>`, elem(-1, "a", api.Attr{Name: "c", Value: "1"}, api.Attr{Name: "d"}), text(0, "x"))
	expectHtml(t, `<a><b>x</b>y<c></c></a>z`, elem(-1, "a"), elem(0, "b"), text(1, "x"), text(0, "y"), elem(0, "c"), text(-1, "z"))
	// The forest's own trees first, then their kids, and so on.
	expectHtml(t, `<a><b>x</b>y</a><c><d></d></c>z`, elem(-1, "a"), elem(-1, "c"), text(-1, "z"), elem(0, "b"), text(0, "y"), elem(1, "d"), text(3, "x"))
	// Kids by turns, and a kid behind its parent's neighbours.
	expectHtml(t, `<a>1<b></b>3</a><c>2<d></d>4</c>`, elem(-1, "a"), elem(-1, "c"), text(0, "1"), text(1, "2"), elem(0, "b"), elem(1, "d"), text(0, "3"), text(1, "4"))
	expectHtml(t, `<a>x<b></b></a>y`, elem(-1, "a"), text(0, "x"), text(-1, "y"), elem(0, "b"))
	if fs := Forest([]api.Spot{}); len(fs) != 0 {
		t.Errorf("%v", fs)
	}
}

// TestP17_2Wrong: a parent that is none is found wherever it stands, and there are no trees then.
func TestP17_2Wrong(t *testing.T) {
	fine := []api.Spot{elem(-1, "a"), text(0, "x"), elem(0, "b"), text(-1, "y"), elem(2, "c"), text(4, "z")}
	if len(expectForest(t, fine)) != 2 {
		t.Error("what is fine is taken")
	}
	for i := range fine {
		parents := []int{-2, -3, -len(fine), math.MinInt, math.MinInt + 1, i, i + 1, len(fine) - 1, len(fine), len(fine) + 1, math.MaxInt, math.MaxInt - 1, 1 << 32, 1<<32 - 1, -1 << 32, 1, 3, 5}
		for _, parent := range parents {
			spots := slices.Clone(fine)
			spots[i].Parent = parent
			if fs := Forest(spots); len(fs) != 0 && (parent >= i || parent < 0 || fine[parent].Tag == "") {
				t.Errorf("spot %d in %d: %s", i, parent, cut(fs))
			}
			expectForest(t, spots)
		}
		// A Tag makes it what may hold others, and nothing else does.
		spots := slices.Clone(fine)
		spots[i].Tag = ""
		expectForest(t, spots)
		spots[i] = api.Spot{Parent: fine[i].Parent, Text: "t", Attrs: []api.Attr{{Name: "a"}}, Origin: api.Origin{Node: 7}}
		expectForest(t, spots)
	}
	for _, spots := range [][]api.Spot{{elem(0, "a")}, {elem(-2, "a")}, {text(0, "a")}, {text(-1, "a"), text(0, "b")}, {elem(-1, "a"), text(2, ""), elem(-1, "b")}, {elem(-1, "a"), elem(1, "b")}, {elem(1, "a"), elem(0, "b")}, {elem(1, "a"), elem(-1, "b")}, {elem(-1, "a"), text(0, "x"), text(1, "y")}} {
		if fs := Forest(spots); len(fs) != 0 {
			t.Errorf("%s: %s", cut(spots), cut(fs))
		}
	}
}

// TestP17_2Every: every short list of spots, of parents that are and that are not, with and without a Tag.
func TestP17_2Every(t *testing.T) {
	t.Parallel()
	met, taken := 0, 0
	var try func(spots []api.Spot, most int)
	try = func(spots []api.Spot, most int) {
		if len(expectForest(t, spots)) > 0 {
			taken++
		}
		met++
		if len(spots) == most {
			return
		}
		for parent := -2; parent <= most; parent++ {
			name := string(rune('a' + len(spots)))
			try(append(slices.Clone(spots), elem(parent, name)), most)
			try(append(slices.Clone(spots), text(parent, name)), most)
		}
	}
	try(nil, 4)
	if met < 40000 || taken < 150 {
		t.Errorf("%d, %d", met, taken)
	}
}

// TestP17_2AsTheyStand: Tag, Text and Attrs are told as they are, whether such a tree may be or not; origins are not looked at.
func TestP17_2AsTheyStand(t *testing.T) {
	attrs := []api.Attr{{Name: "b", Value: "\xff"}, {Name: "a"}, {Name: "a"}}
	odd := api.Origin{Node: -5, Loops: 99, Keys: [api.MaxLoops]api.Key{{Kind: 7}}}
	spots := []api.Spot{{Origin: odd, Parent: -1, Tag: "P<", Text: "\xff", Attrs: attrs}, {Origin: odd, Parent: 0, Text: "x", Attrs: attrs}, {Origin: odd, Parent: 0, Tag: " "}, {Parent: 2}}
	want := []api.Tree{{Tag: "P<", Text: "\xff", Attrs: attrs, Kids: []api.Tree{{Text: "x", Attrs: attrs}, {Tag: " ", Kids: []api.Tree{{}}}}}}
	if got := Forest(spots); !reflect.DeepEqual(got, want) {
		t.Errorf("%+v, want %+v", got, want)
	}
}

// TestP17_2AnyRow: the spots of a trace in another row, with each parent ahead and kids in their row, are the same forest.
func TestP17_2AnyRow(t *testing.T) {
	t.Parallel()
	m, other := newMaker(173), 0
	for i := range 1000 {
		spots, _, code := Trace(m.cores(t, 3+i%3), datum(t, m.state(2)))
		if code != api.OK || len(spots) > 300 {
			continue
		}
		want := expectForest(t, spots)
		mixed := m.mixed(spots)
		if !reflect.DeepEqual(spots, mixed) {
			other++
		}
		if got := expectForest(t, mixed); !forest.Same(got, want) {
			t.Fatalf("%s: %s, want %s", cut(mixed), cut(got), cut(want))
		}
	}
	if other < 300 {
		t.Errorf("only %d are in another row", other)
	}
}

// mixed are the spots of a forest, of which at each step the next kid of one that stands, or the next tree, is taken.
func (m *maker) mixed(spots []api.Spot) []api.Spot {
	kids := map[int][]int{}
	for i, spot := range spots {
		kids[spot.Parent] = append(kids[spot.Parent], i)
	}
	var out []api.Spot
	open, place := []int{-1}, map[int]int{-1: -1}
	for len(open) > 0 {
		n := m.Intn(len(open))
		around := open[n]
		if len(kids[around]) == 0 {
			open = slices.Delete(open, n, n+1)
			continue
		}
		next := kids[around][0]
		kids[around] = kids[around][1:]
		spot := spots[next]
		spot.Parent = place[around]
		place[next] = len(out)
		out, open = append(out, spot), append(open, next)
	}
	return out
}

// TestP17_2Large: long lists, wide and as deep as they are long.
func TestP17_2Large(t *testing.T) {
	const many = 1 << 16
	deep, wide, flat := []api.Spot{elem(-1, "a")}, []api.Spot{elem(-1, "a")}, []api.Spot{text(-1, "x")}
	for i := range many - 1 {
		deep, wide, flat = append(deep, elem(i, "a")), append(wide, elem(0, "b")), append(flat, text(-1, "x"))
	}
	fs, depth := Forest(deep), 0
	for ; len(fs) == 1 && fs[0].Tag == "a"; fs = fs[0].Kids {
		depth++
	}
	if depth != many || len(fs) != 0 {
		t.Errorf("%d deep, then %d", depth, len(fs))
	}
	if fs := Forest(wide); len(fs) != 1 || len(fs[0].Kids) != many-1 {
		t.Errorf("%d", len(fs))
	}
	if fs := Forest(flat); len(fs) != many {
		t.Errorf("%d", len(fs))
	}
	deep[many-1].Parent = many - 1
	wide[many-1].Parent = 1 << 62
	flat[many-1].Parent = -2
	for _, spots := range [][]api.Spot{deep, wide, flat} {
		if fs := Forest(spots); len(fs) != 0 {
			t.Errorf("%d", len(fs))
		}
	}
}
