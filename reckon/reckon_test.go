package reckon

import (
	"reflect"
	"testing"

	"stencil/api"
)

func leaf(place int) api.Expr { return api.Expr{Op: api.EVar, Int: place} }

func two(op int, a, b api.Expr) api.Expr { return api.Expr{Op: op, Kids: []api.Expr{a, b}} }

// TestValuePlaces: what an EVar stands for is the caller's to say, by whatever of it; package eval tests the rest.
func TestValuePlaces(t *testing.T) {
	stack := []api.Value{number(5), text("x"), truth(true)}
	asked := []int{}
	bound := func(e api.Expr) (api.Value, bool) {
		asked = append(asked, e.Int)
		if e.Int >= len(stack) {
			return number(99), false
		}
		return stack[e.Int], true
	}
	for _, c := range []struct {
		e      api.Expr
		want   api.Value
		code   api.Errno
		places []int
	}{
		{leaf(0), number(5), api.OK, []int{0}},
		{leaf(3), api.Value{}, api.ErrEvalName, []int{3}},
		{two(api.ECat, leaf(1), leaf(0)), text("x5"), api.OK, []int{1, 0}},
		{two(api.EAdd, leaf(1), leaf(0)), api.Value{}, api.ErrEvalType, []int{1, 0}},
		{two(api.EAdd, leaf(3), leaf(0)), api.Value{}, api.ErrEvalName, []int{3}},
		{two(api.EAny, leaf(2), leaf(3)), truth(true), api.OK, []int{2}},
		{two(api.EBoth, leaf(2), leaf(2)), truth(true), api.OK, []int{2, 2}},
		{api.Expr{Op: api.EIf, Kids: []api.Expr{leaf(2), leaf(1), leaf(3)}}, text("x"), api.OK, []int{2, 1}},
		{api.Expr{Op: api.ENull}, api.Value{Kind: api.KNull}, api.OK, []int{}},
	} {
		asked = []int{}
		v, code := Value(c.e, bound)
		if code != c.code || !reflect.DeepEqual(v, c.want) || !reflect.DeepEqual(asked, c.places) {
			t.Errorf("%v: %v, %d, asked for %v", c.e, v, code, asked)
		}
	}
}
