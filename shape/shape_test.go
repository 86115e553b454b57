package shape

import (
	"math"
	"strings"
	"testing"

	"stencil/api"
)

func v(place int) api.Expr { return api.Expr{Op: api.EVar, Int: place} }

func op(number int, kids ...api.Expr) api.Expr { return api.Expr{Op: number, Kids: kids} }

func takeAll(api.Expr) bool { return true }

func chain(n int) api.Expr {
	e := v(0)
	for range n - 1 {
		e = op(api.ENeg, e)
	}
	return e
}

func TestTree(t *testing.T) {
	for n := 1; n < 20; n++ {
		for most := -2; most < 22; most++ {
			if got := Tree(chain(n), most, takeAll); got != (n <= most) {
				t.Errorf("%d nodes of %d: %v", n, most, got)
			}
		}
	}
	wide := op(api.EIf, v(0), op(api.EAdd, v(0), v(0)), op(api.EIndex, v(0), v(0)))
	for most := range 12 {
		if got := Tree(wide, most, takeAll); got != (most >= 8) {
			t.Errorf("8 nodes of %d: %v", most, got)
		}
	}
}

// TestTreeNodes: every Op, number of kids, Int and Str; what texts and variables hold is not asked here.
func TestTreeNodes(t *testing.T) {
	kidsOf := []int{0, 0, 0, 0, 0, 0, 1, 2, 1, 1, 1, 2, 2, 2, 2, 2, 2, 2, 2, 2, 2, 2, 2, 2, 2, 2, 2, 2, 2, 2, 3}
	full := strings.Repeat("a", api.MaxName)
	for number := -1; number < 34; number++ {
		for kids := range 5 {
			for _, i := range []int{0, 1, -1, 8, 9, math.MaxInt, math.MinInt} {
				for _, s := range []string{"", "a", "A", "a_", "null", "\n", "\xff", full, full + "a"} {
					e := api.Expr{Op: number, Int: i, Str: s}
					for range kids {
						e.Kids = append(e.Kids, op(api.ENull))
					}
					want := number > 0 && number < 32 && kids == kidsOf[number-1]
					switch number {
					case api.EStr, api.EVar:
					case api.EInt:
						want = want && i >= 0 && s == ""
					case api.EField:
						want = want && i == 0 && (s == "a" || s == "a_" || s == "null" || s == full)
					case api.ECall:
						want = want && (i == 1 || i == 8) && s == ""
					default:
						want = want && i == 0 && s == ""
					}
					if got := Tree(e, 9, takeAll); got != want {
						t.Errorf("%+v: %v", e, got)
					}
				}
			}
		}
	}
}

// TestTreeLeaves: just texts and variables are asked, each once, and none behind one that may not be.
func TestTreeLeaves(t *testing.T) {
	var met []string
	e := op(api.EIf, api.Expr{Op: api.EStr, Str: "a"}, op(api.EAdd, api.Expr{Op: api.EInt, Int: 4}, api.Expr{Op: api.EVar, Str: "b"}), api.Expr{Op: api.EStr, Str: "c"})
	for refused, want := range map[string]string{"": "a b c", "a": "a", "b": "a b", "c": "a b c"} {
		met = nil
		got := Tree(e, 9, func(leaf api.Expr) bool {
			met = append(met, leaf.Str)
			return leaf.Str != refused
		})
		if got != (refused == "") || strings.Join(met, " ") != want {
			t.Errorf("%q: %v, %q", refused, got, met)
		}
	}
}

func TestResolved(t *testing.T) {
	full := strings.Repeat("é", api.MaxStr/2)
	for _, e := range []api.Expr{v(0), v(1 << 40), v(-1), {Op: api.EStr}, {Op: api.EStr, Str: "\x00\t"}, {Op: api.EStr, Str: full}, chain(2 * api.MaxExpr), op(api.EAdd, v(7), op(api.ETrue))} {
		if !Resolved(e) {
			t.Errorf("%d %d %.9q may be", e.Op, e.Int, e.Str)
		}
	}
	for _, e := range []api.Expr{{}, {Op: api.EVar, Str: "a"}, op(api.EVar, v(0)), {Op: api.EStr, Int: 1}, {Op: api.EStr, Str: "\xff"}, {Op: api.EStr, Str: full + "a"}, op(api.EStr, v(0)), chain(2*api.MaxExpr + 1), op(api.EAdd, v(0), api.Expr{}), op(api.EAdd, api.Expr{}, v(0))} {
		if Resolved(e) {
			t.Errorf("%d %d %.9q may not be", e.Op, e.Int, e.Str)
		}
	}
}

func TestPlaced(t *testing.T) {
	for _, last := range []int{-1, 0, 1, 5, math.MaxInt - 1, math.MaxInt} {
		for _, place := range []int{math.MinInt, -1, 0, 1, 2, 5, 6, math.MaxInt - 1, math.MaxInt} {
			want := place >= 0 && place <= last
			for _, e := range []api.Expr{v(place), op(api.ENeg, v(place)), op(api.EAdd, v(place), op(api.ENull)), op(api.EIf, op(api.ETrue), op(api.ENull), op(api.ENot, v(place)))} {
				if Placed(e, last) != want {
					t.Errorf("%d of %d: %v", place, last, !want)
				}
			}
			// Integers are no places.
			if !Placed(api.Expr{Op: api.EInt, Int: place}, last) || Placed(op(api.EAdd, v(-1), v(place)), last) {
				t.Errorf("%d of %d", place, last)
			}
		}
	}
}

// TestShared: an expression that lies in itself many times over is not gone through.
func TestShared(t *testing.T) {
	e := v(0)
	for range 60 {
		e = op(api.EAdd, e, e)
	}
	if Resolved(e) {
		t.Error("it may not be")
	}
}

func TestRow(t *testing.T) {
	a, b, none := api.Part{Plain: "a"}, api.Part{Bound: true}, api.Part{}
	for _, ps := range [][]api.Part{{a}, {b}, {a, b}, {b, a}, {b, b}, {a, b, a}, {b, a, b}, {{Plain: "\xff"}}, {{Plain: "x", Bound: true}, a}} {
		if !Row(ps) {
			t.Errorf("%v may be", ps)
		}
	}
	for _, ps := range [][]api.Part{nil, {}, {none}, {a, a}, {a, none}, {none, b}, {b, none}, {b, a, a}, {a, a, b}, {a, b, none}} {
		if Row(ps) {
			t.Errorf("%v may not be", ps)
		}
	}
}

func TestValue(t *testing.T) {
	full := strings.Repeat("é", api.MaxStr/2)
	for _, p := range []api.Part{{}, {Plain: "a"}, {Plain: full}, {Bound: true}, {Bound: true, Expr: v(1)}, {Bound: true, Expr: op(99)}, {Plain: "a", Expr: api.Expr{Kids: []api.Expr{}}}} {
		if !Value(p) {
			t.Errorf("%.99v may be", p)
		}
	}
	for _, p := range []api.Part{{Plain: "\xff"}, {Plain: full + "a"}, {Plain: "a", Bound: true}, {Plain: "a", Expr: v(0)}, {Expr: api.Expr{Op: 1}}, {Expr: api.Expr{Int: 1}}, {Expr: api.Expr{Str: "a"}}, {Expr: op(0, v(0))}} {
		if Value(p) {
			t.Errorf("%.99v may not be", p)
		}
	}
}
