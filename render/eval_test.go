package render

import (
	"math"
	"strings"
	"testing"

	"stencil/api"
	"stencil/check"
	"stencil/core"
	"stencil/eval"
	"stencil/expr"
	"stencil/syntax"
	"stencil/value"
)

// edges are values of all kinds, with all edges of integers, texts, lists and records.
func edges() []api.Value {
	vs := kinds()
	for _, n := range []int{1, -1, 2, 63, 64, 127, 128, -129, 255, 65536, math.MaxInt32 + 1, math.MaxInt64 - 1, math.MinInt64 + 1} {
		vs = append(vs, whole(n))
	}
	for _, s := range []string{"b", "ab", "f", "1", "\t\x7f", "\uffff", strings.Repeat("x", api.MaxStr-1)} {
		vs = append(vs, txt(s))
	}
	return append(vs, row(row()), many(65), rec("", whole(1)), rec("f", whole(1)), rec("f,a", row(), null), rec("A,f f,f", whole(1), whole(2), rec("f", whole(4))))
}

// kidsOf is how many kids an Op has.
func kidsOf(number int) int {
	switch {
	case number <= api.EVar:
		return 0
	case number == api.EField || number == api.ECall || number == api.ENeg || number == api.ENot:
		return 1
	case number == api.EIf:
		return 3
	}
	return 2
}

// filled is an Op with as many of the kids as it has, and with what else it asks for.
func filled(number int, kids ...api.Expr) api.Expr {
	switch number {
	case api.EInt:
		return num(7)
	case api.EStr:
		return str("\ts")
	case api.EField:
		return part(kids[0], "f")
	case api.ECall:
		return call(api.CallLen, kids[0])
	}
	return op(number, kids[:kidsOf(number)]...)
}

func TestP16_1Rows(t *testing.T) {
	stack := []api.Value{rec("a", whole(1)), whole(2)}
	expectEval(t, v(1), stack, came(whole(2)))
	expectEval(t, op(api.EAdd, of("a"), v(1)), stack, came(whole(3)))
	expectEval(t, v(2), stack, failed(api.ErrEvalName))
	expectEval(t, v(-1), stack, failed(api.ErrEvalName))
	expectEval(t, api.Expr{Op: api.EVar, Str: "a"}, stack, failed(api.ErrEvalTree))
	expectEval(t, str("\t"), stack, came(txt("\t")))
	expectEval(t, op(api.ENot, v(1)), stack, failed(api.ErrEvalType))
	expectEval(t, v(0), []api.Value{{}}, failed(api.ErrEvalTree))
}

// TestP16_1Places: the first, the last and the one behind it, of stacks of many heights.
func TestP16_1Places(t *testing.T) {
	for _, high := range []int{0, 1, 2, 3, api.MaxStack, api.MaxStack + 1, 5000} {
		var stack []api.Value
		for i := range high {
			stack = append(stack, row(whole(i)))
		}
		for _, place := range []int{0, 1, high / 2, high - 1, high, high + 1, -1, -high, math.MaxInt64, math.MinInt64, 1 << 32} {
			want := failed(api.ErrEvalName)
			if place >= 0 && place < high {
				want = came(row(whole(place)))
			}
			expectEval(t, v(place), stack, want)
			expectEvalAsked(t, index(v(place), num(0)), stack)
			// What is not looked at may ask for any place.
			expectEval(t, op(api.EIf, op(api.ETrue), num(1), v(place)), stack, came(whole(1)))
			expectEval(t, op(api.EIf, op(api.EFalse), v(place), num(1)), stack, came(whole(1)))
			expectEval(t, op(api.EBoth, op(api.EFalse), v(place)), stack, came(truth(false)))
			expectEval(t, op(api.EAny, op(api.ETrue), v(place)), stack, came(truth(true)))
			// The first error is met first.
			expectEval(t, op(api.EAdd, op(api.EDiv, num(1), num(0)), v(place)), stack, failed(api.ErrEvalZero))
			if want.code != api.OK {
				expectEval(t, op(api.EAdd, v(place), op(api.EDiv, num(1), num(0))), stack, want)
				expectEval(t, op(api.EAdd, op(api.ENull), v(place)), stack, want)
			}
		}
	}
	for i, one := range edges() {
		stack := append(edges(), one)
		expectEval(t, v(len(stack)-1), stack, came(one))
		expectEval(t, v(i), stack, came(one))
	}
}

// TestP16_1Leaves: what has no kids, on any stack.
func TestP16_1Leaves(t *testing.T) {
	for _, stack := range [][]api.Value{nil, {}, {null}, kinds()} {
		expectEval(t, op(api.ENull), stack, came(null))
		expectEval(t, op(api.EFalse), stack, came(truth(false)))
		expectEval(t, op(api.ETrue), stack, came(truth(true)))
		expectEval(t, num(0), stack, came(whole(0)))
		expectEval(t, num(math.MaxInt64), stack, came(whole(math.MaxInt64)))
		// Any valid text, whether it can be written in an expression or not.
		for _, s := range []string{"", "a", "'\\}", "\x00\t\r\n\x7f", "é€😀\ufffd", strings.Repeat("é", api.MaxStr/2), strings.Repeat("\t", api.MaxStr)} {
			expectEval(t, str(s), stack, came(txt(s)))
			expectEval(t, call(api.CallLen, str(s)), stack, came(whole(len(s))))
		}
	}
}

// TestP16_1Ops: every Op as chapter 11 has it, with places for names.
func TestP16_1Ops(t *testing.T) {
	vs := edges()
	for number := api.EField; number <= api.EIf; number++ {
		met := map[api.Errno]int{}
		for _, x := range vs {
			for _, y := range vs {
				stack := []api.Value{null, y, x, txt("else")}
				e, named := filled(number, v(2), v(1), v(3)), filled(number, api.Expr{Op: api.EVar, Str: "x"}, api.Expr{Op: api.EVar, Str: "y"}, api.Expr{Op: api.EVar, Str: "z"})
				want, code := eval.Eval(named, []api.Bind{{Name: "x", Value: x}, {Name: "y", Value: y}, {Name: "z", Value: txt("else")}})
				expectEval(t, e, stack, answer{want, code})
				expectEvalAsked(t, e, stack)
				met[code]++
				if kidsOf(number) == 1 {
					break
				}
			}
		}
		if met[api.OK] == 0 || met[api.ErrEvalType] == 0 && number != api.ESame && number != api.EOther {
			t.Errorf("%d: %v", number, met)
		}
	}
	for n := api.CallLen; n <= api.CallU32; n++ {
		for _, x := range vs {
			expectEvalAsked(t, call(n, v(0)), []api.Value{x})
		}
	}
}

// faulty are expressions that come to nothing, one for each error of chapter 11; they ask place 0 for faultState.
func faulty() map[api.Errno]api.Expr {
	return map[api.Errno]api.Expr{
		api.ErrEvalType: op(api.EAdd, num(1), op(api.ENull)), api.ErrEvalOver: op(api.EAdd, num(math.MaxInt64), num(1)), api.ErrEvalZero: op(api.EMod, num(1), num(0)), api.ErrEvalShift: op(api.EShl, num(1), num(64)),
		api.ErrEvalPath: of("none"), api.ErrEvalIndex: index(of("l"), num(2)), api.ErrEvalLong: op(api.ECat, of("long"), of("long")),
	}
}

func faultState() api.Value {
	return rec("l,long,b,twice", row(whole(1), whole(2)), txt(strings.Repeat("a", 3000)), truth(true), row(whole(1), whole(1)))
}

// TestP16_1FirstError: of two kids the first one's error, and kids ahead of the operation.
func TestP16_1FirstError(t *testing.T) {
	faults := faulty()
	faults[api.ErrEvalName] = v(9)
	stack := []api.Value{faultState(), truth(true)}
	for code, one := range faults {
		expectEval(t, one, stack, failed(code))
		for number := api.EField; number <= api.EIf; number++ {
			for _, two := range faults {
				expectEval(t, filled(number, one, two, two), stack, failed(code))
				if kidsOf(number) == 2 && number < api.EBoth {
					expectEval(t, filled(number, op(api.ENull), one), stack, failed(code))
				}
			}
		}
	}
}

// wrongExprs are such as may be no resolved ones, one of each sort.
func wrongExprs() []api.Expr {
	a, long := v(0), strings.Repeat("a", api.MaxStr+1)
	return []api.Expr{
		{}, {Op: -1}, {Op: 32}, {Op: 99}, {Op: 32, Kids: exprs(a, a)}, {Op: 1<<32 + api.ENull}, {Op: math.MinInt64}, {Op: math.MaxInt64},
		{Op: api.EInt, Int: -1}, {Op: api.EInt, Str: "1"}, {Op: api.ENull, Int: 1}, {Op: api.ETrue, Str: "true"}, {Op: api.EFalse, Kids: exprs(a)},
		str("\xff"), str("a\xc3"), str(long), {Op: api.EStr, Int: 1}, {Op: api.EStr, Kids: exprs(a)},
		{Op: api.EVar, Str: "a"}, {Op: api.EVar, Str: "\xff"}, {Op: api.EVar, Int: 1, Str: "a"}, {Op: api.EVar, Kids: exprs(a)},
		{Op: api.EField, Str: "a"}, part(a, ""), part(a, "A"), part(a, long[:api.MaxName+1]), {Op: api.EField, Int: 1, Str: "a", Kids: exprs(a)}, {Op: api.EField, Str: "a", Kids: exprs(a, a)},
		call(0, a), call(9, a), call(-1, a), {Op: api.ECall, Int: 1}, {Op: api.ECall, Int: 1, Kids: exprs(a, a)}, {Op: api.ECall, Int: 1, Str: "a", Kids: exprs(a)},
		op(api.EIndex), op(api.EIndex, a), op(api.EIndex, a, a, a), op(api.ENeg), op(api.ENeg, a, a), op(api.ENot), op(api.EAdd), op(api.EAdd, a), op(api.EAdd, a, a, a), op(api.ESame, a), op(api.EBoth, a), op(api.EAny), op(api.EIf), op(api.EIf, a, a), op(api.EIf, a, a, a, a),
	}
}

// wrongValues are such as may not be, one of each sort.
func wrongValues() []api.Value {
	deep := null
	for range api.MaxDepth {
		deep = row(deep)
	}
	return []api.Value{
		{}, {Kind: -1}, {Kind: 7}, {Kind: 1<<32 + api.KInt}, {Kind: api.KNull, Int: 1}, {Kind: api.KBool, Str: "a"}, {Kind: api.KInt, Bool: true}, {Kind: api.KInt, List: []api.Value{null}}, {Kind: api.KStr, Int: 1}, {Kind: api.KList, Names: []string{"a"}},
		txt("\xff"), txt(strings.Repeat("a", api.MaxStr+1)), rec("a"), rec("a", null, null), rec("a,a", null, null), rec("\xff", null), deep, many(api.MaxItems), row(null, api.Value{}), rec("a", rec("b", txt("\xc3"))),
	}
}

// TestP16_1WrongExprs: whether it is looked at or not, and whatever else is met ahead of it.
func TestP16_1WrongExprs(t *testing.T) {
	for _, stack := range [][]api.Value{nil, {truth(true)}, {{}}} {
		for _, bad := range wrongExprs() {
			none := failed(api.ErrEvalTree)
			expectEval(t, bad, stack, none)
			for outer := api.EField; outer <= api.EIf; outer++ {
				for place := range kidsOf(outer) {
					kids := exprs(v(0), v(1), v(0))
					kids[place] = bad
					expectEval(t, filled(outer, kids...), stack, none)
				}
			}
			for _, e := range exprs(op(api.EBoth, op(api.EFalse), bad), op(api.EAny, op(api.ETrue), bad), op(api.EIf, op(api.EFalse), bad, v(0)), op(api.EIf, op(api.ETrue), v(0), bad), op(api.EAdd, v(9), op(api.ENeg, bad))) {
				expectEval(t, e, stack, none)
			}
		}
	}
}

// TestP16_1WrongValues: whether the place is asked for or not.
func TestP16_1WrongValues(t *testing.T) {
	for i, bad := range wrongValues() {
		if value.Check(bad) == api.OK {
			t.Errorf("value %d may be", i)
		}
		for place := range 4 {
			stack := []api.Value{truth(true), whole(1), txt("x"), null}
			stack[place] = bad
			for _, e := range exprs(v(0), v(1), v(3), v(4), v(-1), op(api.ENull), op(api.EDiv, num(1), num(0)), op(api.EAny, op(api.ETrue), v(place)), api.Expr{}) {
				expectEval(t, e, stack, failed(api.ErrEvalTree))
			}
		}
	}
}

// chain is an expression of so many nodes, one in the other.
func chain(n int) api.Expr {
	e := v(0)
	for range n - 1 {
		e = op(api.ENot, e)
	}
	return e
}

// bush is a sum of so many nodes, an odd number.
func bush(n int) api.Expr {
	if n == 1 {
		return v(1)
	}
	left := (n - 1) / 2
	left -= 1 - left%2
	return op(api.EAdd, bush(left), bush(n-1-left))
}

// TestP16_1Long: expressions of 2 MaxExpr nodes and of one more.
func TestP16_1Long(t *testing.T) {
	stack := []api.Value{truth(true), whole(1)}
	for n := 2*api.MaxExpr - 3; n < 2*api.MaxExpr+4; n++ {
		want, sum := came(truth(n%2 == 1)), came(whole((n+1)/2))
		if n > 2*api.MaxExpr {
			want, sum = failed(api.ErrEvalTree), failed(api.ErrEvalTree)
		}
		expectEval(t, chain(n), stack, want)
		if n%2 == 1 {
			expectEval(t, bush(n), stack, sum)
		}
		expectEvalAsked(t, chain(n), stack)
	}
	expectEval(t, chain(api.MaxExpr+1), stack, came(truth(true)))
	expectEval(t, op(api.EIf, op(api.ETrue), num(1), chain(2*api.MaxExpr)), stack, failed(api.ErrEvalTree))
	// A text is as long as it may be, by a join too.
	half := strings.Repeat("x", api.MaxStr/2)
	expectEval(t, op(api.ECat, str(half), str(half)), nil, came(txt(half+half)))
	expectEval(t, op(api.ECat, str(half), str(half+"x")), nil, failed(api.ErrEvalLong))
}

// TestP16_1Names: an expression with names, resolved by check, comes to what chapter 11 says.
func TestP16_1Names(t *testing.T) {
	state := faultState()
	for _, s := range []string{"l", "l[1] + l[0]", "b ? l : long", "none", "len(long) - 3000", "l[2]", "1 / 0", "b && l", "long ~ l[0] == long", "twice[0] == twice[1]", "-l", "u8(l[0] - 2)", "long ~ long"} {
		ns, _, code := syntax.Parse("{{ " + s + " }}")
		cs, _, fault := check.Check(ns)
		if code != api.OK || fault != api.OK {
			t.Fatalf("%s: %d, %d", s, code, fault)
		}
		e, _, _ := expr.Parse(s)
		var env []api.Bind
		for i, name := range state.Names {
			env = append(env, api.Bind{Name: name, Value: state.List[i]})
		}
		want, code := eval.Eval(e, env)
		if code == api.ErrEvalName {
			code = api.ErrEvalPath
		}
		expectEval(t, cs[0].Parts[0].Expr, []api.Value{state}, answer{want, code})
	}
}

// TestP16_1Random: random expressions and stacks, and such as core.Check takes with so many values.
func TestP16_1Random(t *testing.T) {
	m, met := newMaker(161), map[api.Errno]int{}
	m.behind = 1
	for range 3000 {
		var stack []api.Value
		for range m.Intn(7) {
			stack = append(stack, m.value(3, 1+m.Intn(6)))
		}
		for range 10 {
			e := m.kindly(4, 1+m.Intn(6), stack)
			got := expectEvalAsked(t, e, stack)
			met[got.code]++
			if len(stack) == 1 && core.Check(list(hole(e))) == api.OK && got.code == api.ErrEvalName {
				t.Errorf("%v asks for a place that is none", e)
			}
			if got.code == api.OK && value.Check(got.v) != api.OK {
				t.Errorf("%v: %v may not be", e, got.v)
			}
		}
	}
	for code := api.ErrEvalName; code <= api.ErrEvalTree; code++ {
		if met[code] < 5 {
			t.Errorf("%d was asked for %d times", code, met[code])
		}
	}
	if met[api.OK] < 5000 {
		t.Errorf("%v", met)
	}
}
