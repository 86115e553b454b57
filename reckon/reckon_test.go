package reckon

import (
	"reflect"
	"testing"

	"stencil/api"
)

func leaf(place int) api.Expr { return api.Expr{Op: api.EVar, Int: place} }

func two(op int, a, b api.Expr) api.Expr { return api.Expr{Op: op, Kids: []api.Expr{a, b}} }

// TestValuePlaces: what an EVar stands for is the caller's to say, by whatever of it; package eval tests the rest.
func TestValuePlaces(t *testing.T) {
	stack := []api.Value{number(5), text("x"), truth(true)}
	asked := []int{}
	bound := func(e api.Expr) (api.Value, bool) {
		asked = append(asked, e.Int)
		if e.Int >= len(stack) {
			return number(99), false
		}
		return stack[e.Int], true
	}
	for _, c := range []struct {
		e      api.Expr
		want   api.Value
		code   api.Errno
		places []int
	}{
		{leaf(0), number(5), api.OK, []int{0}},
		{leaf(3), api.Value{}, api.ErrEvalName, []int{3}},
		{two(api.ECat, leaf(1), leaf(0)), text("x5"), api.OK, []int{1, 0}},
		{two(api.EAdd, leaf(1), leaf(0)), api.Value{}, api.ErrEvalType, []int{1, 0}},
		{two(api.EAdd, leaf(3), leaf(0)), api.Value{}, api.ErrEvalName, []int{3}},
		{two(api.EAny, leaf(2), leaf(3)), truth(true), api.OK, []int{2}},
		{two(api.EBoth, leaf(2), leaf(2)), truth(true), api.OK, []int{2, 2}},
		{api.Expr{Op: api.EIf, Kids: []api.Expr{leaf(2), leaf(1), leaf(3)}}, text("x"), api.OK, []int{2, 1}},
		{api.Expr{Op: api.ENull}, api.Value{Kind: api.KNull}, api.OK, []int{}},
	} {
		asked = []int{}
		v, code := Value(c.e, bound)
		if code != c.code || !reflect.DeepEqual(v, c.want) || !reflect.DeepEqual(asked, c.places) {
			t.Errorf("%v: %v, %d, asked for %v", c.e, v, code, asked)
		}
	}
}

// TestCode: code is run as it stands, with the texts and the stack that it names; package code tests the rest.
func TestCode(t *testing.T) {
	stack, texts := []api.Value{number(5), text("x"), truth(true), {Kind: api.KList, List: []api.Value{number(7)}}}, []string{"y", "z"}
	for _, c := range []struct {
		code []api.Inst
		want api.Value
		err  api.Errno
	}{
		{[]api.Inst{{Op: api.IVar, A: 0}}, number(5), api.OK},
		{[]api.Inst{{Op: api.IVar, A: 1}, {Op: api.IStr, A: 1}, {Op: api.ICat}}, text("xz"), api.OK},
		{[]api.Inst{{Op: api.IVar, A: 1}, {Op: api.IVar, A: 0}, {Op: api.IAdd}}, api.Value{}, api.ErrEvalType},
		{[]api.Inst{{Op: api.IVar, A: 2}, {Op: api.IElse, A: 4}, {Op: api.IInt, A: 1}, {Op: api.IJump, A: 5}, {Op: api.IInt, A: 2}}, number(1), api.OK},
		{[]api.Inst{{Op: api.IVar, A: 2}, {Op: api.IAny, A: 3}, {Op: api.INull}}, truth(true), api.OK},
		{[]api.Inst{{Op: api.IVar, A: 3}, {Op: api.IInt}, {Op: api.IIndex}, {Op: api.INeg}}, number(-7), api.OK},
	} {
		if v, code := Code(c.code, texts, stack); code != c.err || !reflect.DeepEqual(v, c.want) {
			t.Errorf("%v: %v, %d", c.code, v, code)
		}
	}
}
