package pieces

import (
	"testing"

	"stencil/api"
)

func TestLeft(t *testing.T) {
	one := api.Expr{Op: api.EInt, Int: 1}
	sum := api.Expr{Op: api.EAdd, Kids: []api.Expr{one, {Op: api.ENeg, Kids: []api.Expr{one}}}}
	for i, row := range []struct {
		c    api.Core
		want int
	}{
		{api.Core{}, 1},
		{api.Core{Kind: api.CText, Parts: []api.Part{{Plain: "x"}, {Bound: true, Expr: sum}}}, 1 + 2 + 4},
		{api.Core{Kind: api.CElem, Fields: []api.Field{{Plain: "x", Expr: sum}, {Bound: true, Expr: one}, {Bound: true, Expr: sum}}}, 1 + 3 + 1 + 4},
		{api.Core{Kind: api.CWith, Exprs: []api.Expr{one, sum}}, 1 + 2 + 5},
		{api.Core{Kind: api.CIf, Exprs: []api.Expr{one}, Kids: []api.Core{{}, {}}, Else: []api.Core{{}}}, 1 + 1 + 1},
		{api.Core{Parts: []api.Part{{Expr: sum}}, Fields: []api.Field{{Bound: true}}, Exprs: []api.Expr{{}}}, 1 + 1 + 1 + 1 + 1 + 1},
	} {
		for room := row.want; room < row.want+3; room++ {
			if got := Left(room, row.c); got != room-row.want {
				t.Errorf("row %d: room %d: %d left", i, room, got)
			}
		}
		for room := range row.want {
			if got := Left(room, row.c); got >= 0 {
				t.Errorf("row %d: room %d: %d left", i, room, got)
			}
		}
	}
}

// TestLeftShared: an expression that lies in itself many times over is not gone through.
func TestLeftShared(t *testing.T) {
	e := api.Expr{Op: api.EInt}
	for range 60 {
		e = api.Expr{Op: api.EAdd, Kids: []api.Expr{e, e}}
	}
	for _, c := range []api.Core{{Exprs: []api.Expr{e}}, {Parts: []api.Part{{Bound: true, Expr: e}}}, {Fields: []api.Field{{Bound: true, Expr: e}}}} {
		if got := Left(api.MaxCore, c); got >= 0 {
			t.Errorf("%d left", got)
		}
	}
}

func TestExprs(t *testing.T) {
	number := func(n int) api.Expr { return api.Expr{Op: api.EInt, Int: n} }
	c := api.Core{
		Fields: []api.Field{{Bound: true, Expr: number(1)}, {Expr: number(9)}, {Bound: true, Expr: number(2)}},
		Parts:  []api.Part{{Expr: number(9)}, {Bound: true, Expr: number(3)}, {Plain: "x"}, {Bound: true, Expr: number(4)}},
		Exprs:  []api.Expr{number(5), number(6)},
		Kids:   []api.Core{{Exprs: []api.Expr{number(9)}}},
		Else:   []api.Core{{Exprs: []api.Expr{number(9)}}},
	}
	for last := 1; last <= 7; last++ {
		next := 1
		for e := range Exprs(c) {
			if e.Int != next {
				t.Errorf("%d, want %d", e.Int, next)
			}
			if next == last {
				break
			}
			next++
		}
		if next != last {
			t.Errorf("it ended at %d, not %d", next, last)
		}
	}
}
