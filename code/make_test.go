package code

import (
	"math"
	"slices"
	"strings"
	"testing"

	"stencil/api"
	"stencil/check"
	"stencil/render"
	"stencil/syntax"
	"stencil/value"
)

// Expressions.

func v(place int) api.Expr { return api.Expr{Op: api.EVar, Int: place} }

func num(n int) api.Expr { return api.Expr{Op: api.EInt, Int: n} }

func str(s string) api.Expr { return api.Expr{Op: api.EStr, Str: s} }

func op(number int, kids ...api.Expr) api.Expr { return api.Expr{Op: number, Kids: kids} }

func part(e api.Expr, name string) api.Expr {
	return api.Expr{Op: api.EField, Str: name, Kids: []api.Expr{e}}
}

func call(number int, e api.Expr) api.Expr {
	return api.Expr{Op: api.ECall, Int: number, Kids: []api.Expr{e}}
}

// kidsOf is how many kids an Op has.
func kidsOf(number int) int {
	switch {
	case number <= api.EVar:
		return 0
	case number == api.EField || number == api.ECall || number == api.ENeg || number == api.ENot:
		return 1
	case number == api.EIf:
		return 3
	}
	return 2
}

// filled is an Op with as many of the kids as it has, and with what else it asks for.
func filled(number int, kids ...api.Expr) api.Expr {
	switch number {
	case api.EInt:
		return num(7)
	case api.EStr:
		return str("\ts")
	case api.EField:
		return part(kids[0], "f")
	case api.ECall:
		return call(api.CallLen, kids[0])
	}
	return op(number, kids[:kidsOf(number)]...)
}

// highest is the highest place that e asks for, -1 if none.
func highest(e api.Expr) int {
	return slices.Max(append(places(e), -1))
}

// expectMade says that Make takes e, and answers what it made: Check takes that with as many values as e asks for and more, and with no fewer.
func expectMade(t *testing.T, e api.Expr) ([]api.Inst, []string) {
	t.Helper()
	code, texts, fault := Make(e)
	if fault != api.OK || len(code) == 0 || len(code) > api.MaxCode {
		t.Fatalf("%s: %d instructions, %d", shown(e), len(code), fault)
	}
	least := highest(e) + 1
	for _, more := range []int{0, 1, 1000, math.MaxInt64 - least} {
		expectCheck(t, code, len(texts), least+min(more, math.MaxInt64-least), api.OK)
	}
	for _, depth := range []int{least - 1, 0, -1, math.MinInt64} {
		if depth < least && least > 0 {
			expectCheck(t, code, len(texts), depth, api.ErrCodeName)
		}
	}
	return code, texts
}

// rendered is what chapter 16 says of e.
func rendered(e api.Expr, stack []api.Value) answer {
	v, code := render.Eval(e, stack)
	return answer{v, code}
}

// expectRuns says that what Make makes of e runs as e, with that stack and with one that has more.
func expectRuns(t *testing.T, e api.Expr, stack []api.Value) answer {
	t.Helper()
	if highest(e) >= len(stack) {
		t.Fatalf("%s asks for more than %d values", shown(e), len(stack))
	}
	code, texts := expectMade(t, e)
	want := rendered(e, stack)
	expectRun(t, code, texts, stack, want)
	expectRun(t, code, texts, slices.Concat(stack, []api.Value{txt("more"), null, row(whole(1))}), want)
	return want
}

func expectNone(t *testing.T, e api.Expr) {
	t.Helper()
	if code, texts, fault := Make(e); len(code)+len(texts) != 0 || fault != api.ErrEvalTree {
		t.Errorf("%s: %v, %q, %d", shown(e), code, texts, fault)
	}
}

// TestP20_3Leaves: what has no kids.
func TestP20_3Leaves(t *testing.T) {
	stack := edges()
	for number := api.ENull; number < api.EVar; number++ {
		if got := expectRuns(t, filled(number), nil); got.code != api.OK {
			t.Errorf("%d: %d", number, got.code)
		}
	}
	for _, n := range []int{0, 1, math.MaxInt64} {
		expectRuns(t, num(n), stack)
	}
	for _, s := range []string{"", "a", "'\\}", "\x00\t\r\n\x7f", "é€😀\ufffd", strings.Repeat("é", api.MaxStr/2), strings.Repeat("\t", api.MaxStr)} {
		expectRuns(t, str(s), nil)
		expectRuns(t, op(api.ECat, str(s), str("a")), stack)
	}
	for place := range stack {
		expectRuns(t, v(place), stack[:place+1])
		expectRuns(t, v(place), stack)
	}
}

// TestP20_3Ops: each Op, of values of all kinds.
func TestP20_3Ops(t *testing.T) {
	vs := edges()
	for number := api.EField; number <= api.EIf; number++ {
		met := map[api.Errno]int{}
		for _, x := range vs {
			for _, y := range vs {
				met[expectRuns(t, filled(number, v(2), v(1), v(3)), []api.Value{null, y, x, txt("else")}).code]++
				if kidsOf(number) == 1 {
					break
				}
			}
		}
		if met[api.OK] == 0 || met[api.ErrEvalType] == 0 && number != api.ESame && number != api.EOther {
			t.Errorf("%d: %v", number, met)
		}
	}
	for n := api.CallLen; n <= api.CallU32; n++ {
		for _, x := range vs {
			expectRuns(t, call(n, v(0)), []api.Value{x})
		}
	}
}

// faultyExprs come to nothing, one for each error of chapter 11 that an expression whose places are there can meet; they ask place 0 for faultState.
func faultyExprs() []api.Expr {
	long := str(strings.Repeat("a", 3000))
	return []api.Expr{
		op(api.ENot, num(1)), op(api.EAdd, num(math.MaxInt64), num(1)), op(api.EMod, num(1), num(0)), op(api.EShl, num(1), num(64)),
		part(v(0), "none"), op(api.EIndex, part(v(0), "l"), num(2)), op(api.ECat, long, long),
	}
}

// TestP20_3First: of two kids the first one's error, and kids ahead of the operation; what is not looked at has no error.
func TestP20_3First(t *testing.T) {
	stack, met := []api.Value{faultState(), truth(true)}, map[api.Errno]int{}
	for _, one := range faultyExprs() {
		code := expectRuns(t, one, stack).code
		met[code]++
		for number := api.EField; number <= api.EIf; number++ {
			for _, two := range faultyExprs() {
				if got := expectRuns(t, filled(number, one, two, two), stack); got.code != code {
					t.Errorf("%d: %d, want %d", number, got.code, code)
				}
				if kidsOf(number) == 2 && number < api.EBoth {
					expectRuns(t, filled(number, op(api.ENull), one), stack)
				}
			}
		}
		yes, no := v(1), op(api.ENot, v(1))
		for _, e := range []api.Expr{op(api.EIf, yes, num(1), one), op(api.EIf, no, one, num(1)), op(api.EBoth, no, one), op(api.EAny, yes, one), op(api.EBoth, op(api.EBoth, no, one), one), op(api.EAny, op(api.EBoth, yes, yes), one), op(api.EIf, op(api.EAny, yes, one), op(api.EBoth, no, one), one)} {
			if got := expectRuns(t, e, stack); got.code != api.OK {
				t.Errorf("%s: %d", shown(e), got.code)
			}
		}
		for _, e := range []api.Expr{op(api.EIf, no, num(1), one), op(api.EIf, yes, one, num(1)), op(api.EBoth, yes, one), op(api.EAny, no, one), op(api.EIf, one, num(1), num(2))} {
			if got := expectRuns(t, e, stack); got.code != code {
				t.Errorf("%s: %d", shown(e), got.code)
			}
		}
	}
	if len(met) != 7 {
		t.Errorf("%v", met)
	}
}

// TestP20_3Texts: expressions as they are written, resolved by check.
func TestP20_3Texts(t *testing.T) {
	state := rec("a,b,l,r,s", truth(true), truth(false), row(whole(3), whole(4), txt("x")), rec("n,m", whole(5), null), txt("text"))
	for _, s := range []string{
		"l[0] + l[1] * 2 - -l[0]", "a && b || !b", "a ? l[0] : s ~ 'q' ~ null", "b ? l[0] : s ~ 'q' ~ null", "a && l", "b && l", "a || l", "b || l", "l && a", "len(l) == 3 ? str(l[0]) : 1 / 0", "i8(l[0] << 7) < u8(-1) && 'a' >= 'b'",
		"r['n'] | l[0] ^ 3 & 6", "r == r && r != l", "l[9]", "r.none", "s.n", "(a ? b : a) ? 1 : a ? 2 : 3", "b && (a || 1)", "l[0] % 0", "'\\n' ~ s", "null", "l[0] <= 3 && l[0] > 2 && l[0] >> 1 == 1",
		"a && a && a && b", "b || b || b || a", "a && (b || (a && (b || a)))", "(((a && b) || a) && b) || a", "a ? a ? a ? 1 : 2 : 3 : 4", "b ? 1 : b ? 2 : b ? 3 : 4", "(a && b ? l : r)['m']", "l[a ? 0 : 1] + l[b ? 0 : 1]", "!(a && b) == (!a || !b)", "len(a ? s : l) - len(b ? s : l)",
	} {
		ns, _, code := syntax.Parse("{{ " + s + " }}")
		cs, _, fault := check.Check(ns)
		if code != api.OK || fault != api.OK {
			t.Fatalf("%s: %d, %d", s, code, fault)
		}
		expectRuns(t, cs[0].Parts[0].Expr, []api.Value{state})
	}
}

// wrongExprs are such as may be no resolved ones, one of each sort.
func wrongExprs() []api.Expr {
	a, long := v(0), strings.Repeat("a", api.MaxStr+1)
	return []api.Expr{
		{}, {Op: -1}, {Op: 32}, {Op: 99}, op(32, a, a), {Op: 1<<32 + api.ENull}, {Op: math.MinInt64}, {Op: math.MaxInt64},
		{Op: api.EInt, Int: -1}, {Op: api.EInt, Str: "1"}, {Op: api.ENull, Int: 1}, {Op: api.ETrue, Str: "true"}, op(api.EFalse, a),
		str("\xff"), str("a\xc3"), str(long), {Op: api.EStr, Int: 1}, op(api.EStr, a),
		{Op: api.EVar, Str: "a"}, {Op: api.EVar, Str: "\xff"}, {Op: api.EVar, Int: 1, Str: "a"}, op(api.EVar, a), v(-1), v(-2), v(math.MinInt64),
		{Op: api.EField, Str: "a"}, part(a, ""), part(a, "A"), part(a, long[:api.MaxName+1]), {Op: api.EField, Int: 1, Str: "a", Kids: []api.Expr{a}}, {Op: api.EField, Str: "a", Kids: []api.Expr{a, a}},
		call(0, a), call(9, a), call(-1, a), {Op: api.ECall, Int: 1}, {Op: api.ECall, Int: 1, Kids: []api.Expr{a, a}}, {Op: api.ECall, Int: 1, Str: "a", Kids: []api.Expr{a}},
		op(api.EIndex), op(api.EIndex, a), op(api.EIndex, a, a, a), op(api.ENeg), op(api.ENeg, a, a), op(api.ENot), op(api.EAdd), op(api.EAdd, a), op(api.EAdd, a, a, a), op(api.ESame, a), op(api.EBoth, a), op(api.EAny), op(api.EIf), op(api.EIf, a, a), op(api.EIf, a, a, a, a),
	}
}

// TestP20_3WrongExprs: wherever it lies, whether it is looked at or not.
func TestP20_3WrongExprs(t *testing.T) {
	for _, bad := range wrongExprs() {
		if mayBe(bad) {
			t.Errorf("%s may be", shown(bad))
		}
		expectNone(t, bad)
		for outer := api.EField; outer <= api.EIf; outer++ {
			for at := range kidsOf(outer) {
				kids := []api.Expr{v(0), v(1), v(0)}
				kids[at] = bad
				expectNone(t, filled(outer, kids...))
				expectNone(t, op(api.EAny, op(api.ETrue), op(api.EAdd, num(1), filled(outer, kids...))))
			}
		}
	}
}

// TestP20_3Places: any that is not below 0, however high.
func TestP20_3Places(t *testing.T) {
	for _, place := range []int{0, 1, api.MaxStack - 1, api.MaxStack, api.MaxCode, math.MaxInt32 + 1, math.MaxInt64 - 1} {
		code, texts := expectMade(t, op(api.EAdd, v(place), v(0)))
		if place < 1<<16 {
			stack := slices.Repeat([]api.Value{whole(4)}, place+1)
			expectRun(t, code, texts, stack, came(whole(8)))
			expectRun(t, code, texts, stack[1:], failed(api.ErrCodeName))
		}
	}
	// No depth is above the greatest place of all.
	code, texts, fault := Make(v(math.MaxInt64))
	if fault != api.OK {
		t.Error(fault)
	}
	expectCheck(t, code, len(texts), math.MaxInt64, api.ErrCodeName)
	expectRun(t, code, texts, []api.Value{null}, failed(api.ErrCodeName))
	for place := range 200 {
		expectMade(t, op(api.EIf, v(place), v(place/2), v(place/3)))
	}
}

// TestP20_3Values: a stack with a value that may not be.
func TestP20_3Values(t *testing.T) {
	for _, bad := range wrongValues() {
		for at := range 2 {
			stack := []api.Value{truth(true), whole(1)}
			stack[at] = bad
			for _, e := range []api.Expr{v(0), v(1), num(1), op(api.EDiv, num(1), num(0)), op(api.EAny, op(api.ETrue), v(at))} {
				if got := expectRuns(t, e, stack); got.code != api.ErrEvalTree {
					t.Errorf("%s: %d", shown(e), got.code)
				}
			}
		}
	}
}

// grown is an expression of as near to n nodes as may be, and no more: Ops of that number, each in that kid of the one around it.
func grown(number, at, n int) api.Expr {
	e := v(1)
	for size := 1; size+kidsOf(number) <= n; size += kidsOf(number) {
		kids := []api.Expr{v(0), v(0), v(1)}
		kids[at] = e
		e = filled(number, kids...)
	}
	return e
}

// bush is an expression of n nodes of Ops of two kids, an odd number, no kid much larger than the other.
func bush(number, n int) api.Expr {
	if n == 1 {
		return v(1)
	}
	left := (n - 1) / 2
	left -= 1 - left%2
	return op(number, bush(number, left), bush(number, n-1-left))
}

func size(e api.Expr) int {
	n := 1
	for _, kid := range e.Kids {
		n += size(kid)
	}
	return n
}

// TestP20_3Large: as many nodes as may be, in each shape, and more.
func TestP20_3Large(t *testing.T) {
	const most = 2 * api.MaxExpr
	stack := []api.Value{truth(true), truth(false)}
	for number := api.EField; number <= api.EIf; number++ {
		for at := range kidsOf(number) {
			e := grown(number, at, most)
			if n := size(e); n > most || n < most-2 {
				t.Fatalf("%d nodes", n)
			}
			expectRuns(t, e, stack)
			expectNone(t, grown(number, at, most+kidsOf(number)))
		}
		if kidsOf(number) == 2 {
			expectRuns(t, bush(number, most-1), stack)
			expectRuns(t, op(api.ENot, bush(number, most-1)), stack)
			expectNone(t, bush(number, most+1))
		}
	}
	if got := expectRuns(t, bush(api.EAdd, most-1), []api.Value{null, whole(2)}); !alike(got.v, whole(most)) {
		t.Errorf("%s", told(got))
	}
	if got := expectRuns(t, grown(api.ECat, 0, most), []api.Value{txt("ab"), txt("c")}); !alike(got.v, txt("c"+strings.Repeat("ab", (most-1)/2))) {
		t.Errorf("%s", told(got))
	}
	expectNone(t, op(api.EAdd, v(-1), bush(api.EAdd, most-3)))
	expectRuns(t, op(api.EAdd, v(0), bush(api.EAdd, most-3)), stack)
}

// TestP20_3Code: what Make answers has texts for its code alone, each of which may be.
func TestP20_3Code(t *testing.T) {
	m := newMaker(203)
	for range 2000 {
		e := m.expr(4, 1+m.Intn(6), []int{api.KRec, api.KInt, api.KBool, api.KList, api.KStr})
		code, texts := expectMade(t, e)
		for i := range texts {
			if !slices.ContainsFunc(code, func(inst api.Inst) bool { return (inst.Op == api.IStr || inst.Op == api.IField) && inst.A == i }) {
				t.Errorf("%s: text %d is not named", shown(e), i)
			}
		}
		for _, s := range texts {
			if value.Check(txt(s)) != api.OK {
				t.Errorf("%q", s)
			}
		}
	}
}
