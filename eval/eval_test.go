package eval

import (
	"fmt"
	"math"
	"math/rand"
	"slices"
	"strconv"
	"strings"
	"testing"

	"stencil/api"
	"stencil/data"
	"stencil/expr"
	"stencil/value"
)

// cut is a text that may be long, for a message.
func cut(s string) string {
	if len(s) > 200 {
		return s[:100] + " .. " + s[len(s)-60:]
	}
	return s
}

func shown(e api.Expr) string {
	if s, code := expr.Print(e); code == api.OK {
		return cut(s)
	}
	return cut(fmt.Sprint(e))
}

func told(a answer) string { return cut(fmt.Sprintf("%v", a.v)) + fmt.Sprintf(", %d", a.code) }

func read(t *testing.T, s string) api.Expr {
	t.Helper()
	e, at, code := expr.Parse(s)
	if code != api.OK {
		t.Fatalf("%q: %d at %d", s, code, at)
	}
	return e
}

func datum(t *testing.T, s string) api.Value {
	t.Helper()
	v, at, code := data.Parse([]byte(s))
	if code != api.OK {
		t.Fatalf("%q: %d at %d", s, code, at)
	}
	return v
}

func expectEval(t *testing.T, e api.Expr, env []api.Bind, want answer) {
	t.Helper()
	v, code := Eval(e, env)
	if code != want.code || !alike(v, want.v) {
		t.Errorf("%s: %s, want %s", shown(e), told(answer{v, code}), told(want))
	}
}

// expectAsked holds Eval against the second way, and answers what that told.
func expectAsked(t *testing.T, e api.Expr, env []api.Bind) answer {
	t.Helper()
	want := askedEval(e, env)
	expectEval(t, e, env, want)
	return want
}

func expectNames(t *testing.T, e api.Expr, want ...string) {
	t.Helper()
	if got := Names(e); !slices.Equal(got, want) {
		t.Errorf("names of %s: %q, want %q", shown(e), got, want)
	}
}

// row is an expression with what it comes to: a datum's text, or an error.
type row struct {
	s, want string
	code    api.Errno
}

func expectRows(t *testing.T, env []api.Bind, rows []row) {
	t.Helper()
	for _, r := range rows {
		e, want := read(t, r.s), failed(r.code)
		if r.code == api.OK {
			want = came(datum(t, r.want))
		}
		expectEval(t, e, env, want)
		if also := askedEval(e, env); also.code != want.code || !alike(also.v, want.v) {
			t.Errorf("%s: %s was asked for, not %s", r.s, told(also), told(want))
		}
	}
}

func TestP11_1Rows(t *testing.T) {
	env := []api.Bind{{Name: "a", Value: rec("b", number(2))}, {Name: "e", Value: list()}}
	expectRows(t, env, []row{
		{"a.b + 1", "3", 0}, {"a.c", "", api.ErrEvalPath}, {"a.b.c", "", api.ErrEvalType}, {"x", "", api.ErrEvalName},
		{"1 / 0", "", api.ErrEvalZero}, {"'a' ~ 1 ~ null", `"a1"`, 0}, {"'b' < 'a'", "false", 0}, {"u8(-1)", "255", 0}, {"1 << 64", "", api.ErrEvalShift},
		{"false && 1", "false", 0}, {"true && 1", "", api.ErrEvalType}, {"true ? 1 : 1 / 0", "1", 0}, {"e[0]", "", api.ErrEvalIndex},
	})
}

func TestP11_1Leaves(t *testing.T) {
	expectRows(t, nil, []row{
		{"null", "null", 0}, {"false", "false", 0}, {"true", "true", 0}, {"0", "0", 0}, {"9223372036854775807", "9223372036854775807", 0},
		{"''", `""`, 0}, {"'a'", `"a"`, 0}, {`'\n\'\}\\é😀'`, `"\n'}\\é😀"`, 0}, {"len", "", api.ErrEvalName}, {"nulls", "", api.ErrEvalName},
	})
	long := strings.Repeat("é", api.MaxStr/2)
	expectEval(t, api.Expr{Op: api.EStr, Str: long}, nil, came(text(long)))
	expectEval(t, api.Expr{Op: api.EStr, Str: "a", Kids: []api.Expr{}}, []api.Bind{}, came(text("a")))
}

// samples are values of all kinds, with all edges of integers, texts, lists and records.
func samples() []api.Value {
	vs := []api.Value{null, truth(false), truth(true)}
	for _, n := range []int{0, 1, -1, 2, -2, 3, 7, -7, 8, 62, 63, 64, 65, -63, -64, 127, 128, 129, -128, -129, 255, 256, 32767, 32768, -32768, -32769, 65535, 65536, math.MaxInt32, math.MaxInt32 + 1, math.MinInt32, math.MinInt32 - 1, math.MaxUint32, math.MaxUint32 + 1, 1 << 62, -1 << 62, 3037000499, 3037000500, math.MaxInt64, math.MaxInt64 - 1, math.MinInt64, math.MinInt64 + 1} {
		vs = append(vs, number(n))
	}
	for _, s := range []string{"", "a", "b", "ab", "aa", "A", "f", "0", "1", "-1", "true", "null", "é", "\x00", "\x7f", "€", "😀", "\uffff", "f f", strings.Repeat("x", api.MaxStr-1), strings.Repeat("x", api.MaxStr), strings.Repeat("é", api.MaxStr/2)} {
		vs = append(vs, text(s))
	}
	return append(vs,
		list(), list(null), list(number(1)), list(list()), list(number(1), text("a"), truth(true)), many(64), many(65),
		rec("-"), rec("", number(1)), rec("a", number(1)), rec("f", number(1)), rec("f", text("f")), rec("a,f", null, list()), rec("f,a", list(), null), rec("A,f f,\x00,f", number(1), number(2), number(3), rec("f", number(4))))
}

// expectCodes says that an Op came to each of these codes at least once, and to no other.
func expectCodes(t *testing.T, name string, met map[api.Errno]int, codes ...api.Errno) {
	t.Helper()
	for _, code := range codes {
		if met[code] == 0 {
			t.Errorf("%s: %d was never asked for", name, code)
		}
	}
	if len(met) != len(codes) {
		t.Errorf("%s: %v were asked for", name, met)
	}
}

// codesOf are the codes that an Op of EIndex to EOther may come to.
func codesOf(op int) []api.Errno {
	switch op {
	case api.EIndex:
		return []api.Errno{api.OK, api.ErrEvalType, api.ErrEvalIndex, api.ErrEvalPath}
	case api.EField:
		return []api.Errno{api.OK, api.ErrEvalType, api.ErrEvalPath}
	case api.ENeg, api.EMul, api.EAdd, api.ESub:
		return []api.Errno{api.OK, api.ErrEvalType, api.ErrEvalOver}
	case api.EDiv:
		return []api.Errno{api.OK, api.ErrEvalType, api.ErrEvalOver, api.ErrEvalZero}
	case api.EMod:
		return []api.Errno{api.OK, api.ErrEvalType, api.ErrEvalZero}
	case api.EShl:
		return []api.Errno{api.OK, api.ErrEvalType, api.ErrEvalOver, api.ErrEvalShift}
	case api.EShr:
		return []api.Errno{api.OK, api.ErrEvalType, api.ErrEvalShift}
	case api.ECat:
		return []api.Errno{api.OK, api.ErrEvalType, api.ErrEvalLong}
	case api.ESame, api.EOther:
		return []api.Errno{api.OK}
	}
	return []api.Errno{api.OK, api.ErrEvalType}
}

// TestP11_1Pairs lays every value beside every other in every Op with two kids.
func TestP11_1Pairs(t *testing.T) {
	vs := samples()
	for number := api.EIndex; number <= api.EAny; number++ {
		if askedKids(number) != 2 {
			continue
		}
		e, met := op(number, variable("x"), variable("y")), map[api.Errno]int{}
		for _, x := range vs {
			for _, y := range vs {
				want := expectAsked(t, e, []api.Bind{{Name: "x", Value: x}, {Name: "y", Value: y}})
				met[want.code]++
			}
		}
		expectCodes(t, shown(e), met, codesOf(number)...)
	}
}

func TestP11_1Ones(t *testing.T) {
	for number := api.EField; number <= api.ENot; number++ {
		if askedKids(number) != 1 || number == api.ECall {
			continue
		}
		e, met := filled(number, variable("x")), map[api.Errno]int{}
		for _, x := range samples() {
			want := expectAsked(t, e, []api.Bind{{Name: "x", Value: x}})
			met[want.code]++
		}
		expectCodes(t, shown(e), met, codesOf(number)...)
	}
}

func TestP11_1Choices(t *testing.T) {
	e := op(api.EIf, variable("x"), variable("y"), variable("z"))
	for _, x := range samples() {
		for _, y := range samples() {
			env := []api.Bind{{Name: "x", Value: x}, {Name: "y", Value: y}, {Name: "z", Value: text("else")}}
			switch {
			case x.Kind != api.KBool:
				expectEval(t, e, env, failed(api.ErrEvalType))
			case x.Bool:
				expectEval(t, e, env, came(y))
			default:
				expectEval(t, e, env, came(text("else")))
			}
			expectAsked(t, e, env)
		}
	}
}

func TestP11_1Calls(t *testing.T) {
	r := rand.New(rand.NewSource(1))
	vs := samples()
	for range 2000 {
		vs = append(vs, number(r.Int()>>r.Intn(63)), number(-r.Int()>>r.Intn(63)))
	}
	for n := api.CallLen; n <= api.CallU32; n++ {
		met := map[api.Errno]int{}
		for _, x := range vs {
			want := expectAsked(t, call(n, variable("x")), []api.Bind{{Name: "x", Value: x}})
			met[want.code]++
		}
		expectCodes(t, "call "+strconv.Itoa(n), met, api.OK, api.ErrEvalType)
	}
	expectRows(t, []api.Bind{{Name: "r", Value: rec("a,b", null, list(null, null, null))}, {Name: "min", Value: number(math.MinInt64)}}, []row{
		{"len('é')", "2", 0}, {"len('')", "0", 0}, {"len(r)", "2", 0}, {"len(r.b)", "3", 0}, {"len(null)", "", api.ErrEvalType}, {"len(true)", "", api.ErrEvalType}, {"len(1)", "", api.ErrEvalType},
		{"str(null)", `""`, 0}, {"str(true)", `"true"`, 0}, {"str(false)", `"false"`, 0}, {"str(min)", `"-9223372036854775808"`, 0}, {"str('a')", `"a"`, 0}, {"str(r)", "", api.ErrEvalType}, {"str(r.b)", "", api.ErrEvalType},
		{"i8(127)", "127", 0}, {"i8(128)", "-128", 0}, {"i8(-129)", "127", 0}, {"u8(256)", "0", 0}, {"u8(-1)", "255", 0}, {"u8(min)", "0", 0},
		{"i16(32768)", "-32768", 0}, {"u16(-1)", "65535", 0}, {"i32(2147483648)", "-2147483648", 0}, {"u32(-1)", "4294967295", 0}, {"u32(4294967296)", "0", 0},
		{"i8(true)", "", api.ErrEvalType}, {"u8(null)", "", api.ErrEvalType}, {"u32('1')", "", api.ErrEvalType},
	})
}

func TestP11_1Numbers(t *testing.T) {
	env := []api.Bind{{Name: "max", Value: number(math.MaxInt64)}, {Name: "min", Value: number(math.MinInt64)}}
	expectRows(t, env, []row{
		{"max + 0", "9223372036854775807", 0}, {"max + 1", "", api.ErrEvalOver}, {"min + -1", "", api.ErrEvalOver}, {"max + min", "-1", 0}, {"min - 0", "-9223372036854775808", 0}, {"min - 1", "", api.ErrEvalOver}, {"0 - min", "", api.ErrEvalOver}, {"-1 - min", "9223372036854775807", 0},
		{"-min", "", api.ErrEvalOver}, {"-max", "-9223372036854775807", 0}, {"-0", "0", 0}, {"--7", "7", 0}, {"min * -1", "", api.ErrEvalOver}, {"min * 1", "-9223372036854775808", 0}, {"max * -1", "-9223372036854775807", 0}, {"max * 2", "", api.ErrEvalOver}, {"max * max", "", api.ErrEvalOver}, {"min * min", "", api.ErrEvalOver}, {"min * 0", "0", 0},
		{"min / -1", "", api.ErrEvalOver}, {"min % -1", "0", 0}, {"max / -1", "-9223372036854775807", 0}, {"-7 / 2", "-3", 0}, {"7 / -2", "-3", 0}, {"-7 % 2", "-1", 0}, {"7 % -2", "1", 0}, {"0 / 0", "", api.ErrEvalZero}, {"0 % 0", "", api.ErrEvalZero}, {"min / 0", "", api.ErrEvalZero}, {"max % 0", "", api.ErrEvalZero},
		{"1 << 0", "1", 0}, {"1 << 62", "4611686018427387904", 0}, {"1 << 63", "", api.ErrEvalOver}, {"-1 << 63", "-9223372036854775808", 0}, {"0 << 63", "0", 0}, {"0 << 64", "", api.ErrEvalShift}, {"1 << -1", "", api.ErrEvalShift}, {"1 << max", "", api.ErrEvalShift}, {"max << 1", "", api.ErrEvalOver}, {"min << 0", "-9223372036854775808", 0}, {"min << 1", "", api.ErrEvalOver},
		{"max >> 0", "9223372036854775807", 0}, {"max >> 63", "0", 0}, {"min >> 63", "-1", 0}, {"-7 >> 1", "-4", 0}, {"1 >> 64", "", api.ErrEvalShift}, {"1 >> -1", "", api.ErrEvalShift}, {"min >> min", "", api.ErrEvalShift},
		{"-1 & max", "9223372036854775807", 0}, {"min & max", "0", 0}, {"min | max", "-1", 0}, {"min ^ max", "-1", 0}, {"-1 ^ min", "9223372036854775807", 0}, {"-2 | 1", "-1", 0}, {"-8 & 12", "8", 0}, {"12 ^ 10", "6", 0},
		{"min < max", "true", 0}, {"max < min", "false", 0}, {"max <= max", "true", 0}, {"max < max", "false", 0}, {"max > max", "false", 0}, {"max >= max", "true", 0}, {"min >= max", "false", 0}, {"min <= max", "true", 0}, {"min > max", "false", 0}, {"max > min", "true", 0}, {"max >= min", "true", 0}, {"max <= min", "false", 0},
	})
	r := rand.New(rand.NewSource(2))
	for range 60000 {
		x, y := r.Int()>>r.Intn(63), r.Int()>>r.Intn(63)
		x, y = x*(1-2*r.Intn(2)), y*(1-2*r.Intn(2))
		which := []int{api.EMul, api.EDiv, api.EMod, api.EAdd, api.ESub, api.EShl, api.EShr, api.EAnd, api.EXor, api.EOr, api.ELess, api.EMost, api.EMore, api.ELeast, api.ESame, api.EOther}[r.Intn(16)]
		if which == api.EShl || which == api.EShr {
			y = r.Intn(68) - 2
		}
		expectAsked(t, op(which, variable("x"), variable("y")), []api.Bind{{Name: "x", Value: number(x)}, {Name: "y", Value: number(y)}})
	}
}

func TestP11_1Bound(t *testing.T) {
	x, y, z := number(1), text("y"), list(number(3))
	env := []api.Bind{{Name: "a", Value: x}, {Name: "b", Value: y}, {Name: "a", Value: z}, {Name: "", Value: x}, {Name: "null", Value: x}, {Name: "A", Value: x}, {Name: "\xff", Value: x}, {Name: "len", Value: y}, {Name: "c", Value: x}, {Name: "c", Value: null}}
	expectEval(t, variable("a"), env, came(z))
	expectEval(t, variable("a"), env[:2], came(x))
	expectEval(t, variable("b"), env, came(y))
	expectEval(t, variable("b"), env[2:], failed(api.ErrEvalName))
	expectEval(t, variable("c"), env, came(null))
	expectEval(t, variable("len"), env, came(y))
	expectEval(t, call(api.CallLen, variable("len")), env, came(number(1)))
	expectEval(t, op(api.ENull), env, came(null))
	for _, name := range []string{"d", "aa", "a_", "ab", "a0", "nul", "l", strings.Repeat("a", api.MaxName)} {
		expectEval(t, variable(name), env, failed(api.ErrEvalName))
		expectEval(t, variable(name), nil, failed(api.ErrEvalName))
		expectEval(t, variable(name), append(env, api.Bind{Name: name, Value: truth(true)}), came(truth(true)))
	}
	for i := range 5 {
		env := []api.Bind{}
		for j := range 5 {
			env = append(env, api.Bind{Name: []string{"x", "y"}[(j+i)%2], Value: number(j)})
		}
		expectAsked(t, variable("x"), env)
		expectAsked(t, variable("y"), env)
	}
}

func TestP11_1Parts(t *testing.T) {
	inner := rec("a,b", number(5), list(text("x"), rec("", truth(true))))
	env := []api.Bind{{Name: "l", Value: list(number(7), inner, null)}, {Name: "r", Value: rec("a,b,,A b,null,é,len", inner, number(1), number(2), number(3), number(4), number(5), number(6))}, {Name: "max", Value: number(math.MaxInt64)}, {Name: "min", Value: number(math.MinInt64)}}
	expectRows(t, env, []row{
		{"l[0]", "7", 0}, {"l[2]", "null", 0}, {"l[3]", "", api.ErrEvalIndex}, {"l[-1]", "", api.ErrEvalIndex}, {"l[max]", "", api.ErrEvalIndex}, {"l[min]", "", api.ErrEvalIndex}, {"l[4294967296]", "", api.ErrEvalIndex},
		{"l[1].b[1]['']", "true", 0}, {"l[1].a", "5", 0}, {"l[1]['a']", "5", 0}, {"l[1].c", "", api.ErrEvalPath}, {"l.a", "", api.ErrEvalType}, {"l['a']", "", api.ErrEvalType}, {"l['0']", "", api.ErrEvalType}, {"l[null]", "", api.ErrEvalType}, {"l[true]", "", api.ErrEvalType}, {"l[l]", "", api.ErrEvalType},
		{"r.a.a", "5", 0}, {"r.b", "1", 0}, {"r['']", "2", 0}, {"r['A b']", "3", 0}, {"r.null", "4", 0}, {"r['é']", "5", 0}, {"r.len", "6", 0}, {"r.c", "", api.ErrEvalPath}, {"r['c']", "", api.ErrEvalPath}, {"r['a ']", "", api.ErrEvalPath}, {"r.a.c", "", api.ErrEvalPath}, {"r[0]", "", api.ErrEvalType}, {"r[null]", "", api.ErrEvalType}, {"r[r]", "", api.ErrEvalType}, {"r.b.a", "", api.ErrEvalType},
		{"r.a.b", `["x", {"": true}]`, 0}, {"r.a['b'][1]", `{"": true}`, 0}, {"'abc'[0]", "", api.ErrEvalType}, {"'abc'.a", "", api.ErrEvalType}, {"null.a", "", api.ErrEvalType}, {"1[0]", "", api.ErrEvalType}, {"true.a", "", api.ErrEvalType},
	})
	for _, size := range []int{1, 2, 100, api.MaxItems - 1} {
		env := []api.Bind{{Name: "l", Value: many(size)}, {Name: "i"}}
		for _, i := range []int{0, size / 2, size - 1} {
			env[1].Value = number(i)
			expectEval(t, read(t, "l[i]"), env, came(number(i)))
		}
		for _, i := range []int{-1, size, size + 1, -size} {
			env[1].Value = number(i)
			expectEval(t, read(t, "l[i]"), env, failed(api.ErrEvalIndex))
		}
	}
}

func TestP11_1Joined(t *testing.T) {
	full := strings.Repeat("a", api.MaxStr)
	env := []api.Bind{{Name: "full", Value: text(full)}, {Name: "less", Value: text(full[1:])}, {Name: "half", Value: text(full[:api.MaxStr/2])}, {Name: "two", Value: text(strings.Repeat("é", api.MaxStr/2))}, {Name: "l", Value: list()}, {Name: "min", Value: number(math.MinInt64)}}
	for _, r := range []struct {
		s, want string
		code    api.Errno
	}{
		{"full ~ ''", full, 0}, {"'' ~ full", full, 0}, {"full ~ null", full, 0}, {"null ~ full", full, 0}, {"full ~ 'a'", "", api.ErrEvalLong}, {"'a' ~ full", "", api.ErrEvalLong}, {"full ~ 0", "", api.ErrEvalLong}, {"full ~ full", "", api.ErrEvalLong}, {"less ~ 'a'", full, 0}, {"less ~ 1", full[1:] + "1", 0}, {"less ~ 10", "", api.ErrEvalLong}, {"less ~ 'é'", "", api.ErrEvalLong}, {"less ~ true", "", api.ErrEvalLong},
		{"half ~ half", full, 0}, {"half ~ half ~ half", "", api.ErrEvalLong}, {"half ~ half ~ null", full, 0}, {"two ~ ''", strings.Repeat("é", api.MaxStr/2), 0}, {"two ~ '.'", "", api.ErrEvalLong},
		{"full ~ l", "", api.ErrEvalType}, {"l ~ full", "", api.ErrEvalType}, {"l ~ l", "", api.ErrEvalType}, {"true ~ false", "truefalse", 0}, {"null ~ null", "", 0}, {"1 ~ 2", "12", 0}, {"min ~ -1", "-9223372036854775808-1", 0}, {"'a' ~ 'b' ~ 'c'", "abc", 0},
	} {
		want := failed(r.code)
		if r.code == api.OK {
			want = came(text(r.want))
		}
		expectEval(t, read(t, r.s), env, want)
		expectAsked(t, read(t, r.s), env)
	}
}

func TestP11_1Texts(t *testing.T) {
	expectRows(t, nil, []row{
		{"'a' < 'b'", "true", 0}, {"'a' < 'a'", "false", 0}, {"'a' <= 'a'", "true", 0}, {"'a' > ''", "true", 0}, {"'' < 'a'", "true", 0}, {"'' >= ''", "true", 0}, {"'ab' > 'a'", "true", 0}, {"'B' < 'a'", "true", 0}, {"'10' < '9'", "true", 0}, {"'z' < 'é'", "true", 0}, {"'\uffff' < '😀'", "true", 0}, {"'é' >= 'z'", "true", 0},
		{"1 < '2'", "", api.ErrEvalType}, {"'1' < 2", "", api.ErrEvalType}, {"null < null", "", api.ErrEvalType}, {"true > false", "", api.ErrEvalType}, {"'a' <= null", "", api.ErrEvalType}, {"null >= 1", "", api.ErrEvalType},
		{"1 == '1'", "false", 0}, {"1 == 1", "true", 0}, {"null == false", "false", 0}, {"null == null", "true", 0}, {"'' == null", "false", 0}, {"'a' != 'a'", "false", 0}, {"'a' != 'b'", "true", 0}, {"true == !false", "true", 0}, {"0 == false", "false", 0}, {"0 != false", "true", 0},
		{"!true", "false", 0}, {"!false", "true", 0}, {"!!true", "true", 0}, {"!null", "", api.ErrEvalType}, {"!0", "", api.ErrEvalType}, {"!''", "", api.ErrEvalType}, {"-true", "", api.ErrEvalType}, {"-'1'", "", api.ErrEvalType}, {"-null", "", api.ErrEvalType}, {"true & true", "", api.ErrEvalType}, {"1 + '1'", "", api.ErrEvalType}, {"'1' + '1'", "", api.ErrEvalType},
	})
}

// faults are expressions that come to nothing, one for each error.
var faults = []row{
	{"x", "", api.ErrEvalName}, {"1 + null", "", api.ErrEvalType}, {"9223372036854775807 + 1", "", api.ErrEvalOver}, {"1 % 0", "", api.ErrEvalZero}, {"1 << 64", "", api.ErrEvalShift},
	{"r.z", "", api.ErrEvalPath}, {"l[2]", "", api.ErrEvalIndex}, {"r.f ~ r.f", "", api.ErrEvalLong},
}

func faultEnv() []api.Bind {
	return []api.Bind{{Name: "r", Value: rec("f,t", text(strings.Repeat("a", 3000)), truth(true))}, {Name: "l", Value: list(number(0), number(1))}}
}

func TestP11_1NotLookedAt(t *testing.T) {
	env := faultEnv()
	for _, f := range faults {
		expectRows(t, env, []row{
			f, {"false && " + "(" + f.s + ")", "false", 0}, {"true || (" + f.s + ")", "true", 0}, {"true ? 'a' : " + f.s, `"a"`, 0}, {"false ? " + f.s + " : 'a'", `"a"`, 0},
			{"true && (" + f.s + ")", "", f.code}, {"false || (" + f.s + ")", "", f.code}, {"true ? " + f.s + " : 'a'", "", f.code}, {"false ? 'a' : " + f.s, "", f.code},
			{"(" + f.s + ") && false", "", f.code}, {"(" + f.s + ") || true", "", f.code}, {"(" + f.s + ") ? 1 : 2", "", f.code},
			{"1 && (" + f.s + ")", "", api.ErrEvalType}, {"null || (" + f.s + ")", "", api.ErrEvalType}, {"'' ? " + f.s + " : " + f.s, "", api.ErrEvalType},
			{"false && 1 && (" + f.s + ")", "false", 0}, {"true || 1 || (" + f.s + ")", "true", 0}, {"true && false && (" + f.s + ")", "false", 0},
		})
	}
	expectRows(t, env, []row{
		{"true && true", "true", 0}, {"true && false", "false", 0}, {"false && true", "false", 0}, {"false || false", "false", 0}, {"false || true", "true", 0}, {"true || false", "true", 0},
		{"true && null", "", api.ErrEvalType}, {"false || 0", "", api.ErrEvalType}, {"false && null", "false", 0}, {"true || 0", "true", 0}, {"l && true", "", api.ErrEvalType}, {"l ? 1 : 2", "", api.ErrEvalType}, {"false ? 1 : null", "null", 0}, {"true ? l : 1", "[0, 1]", 0},
	})
}

// TestP11_1FirstError lays each error beside each other in every Op: what stands further left is met first, and an operation is done only when all its kids are.
func TestP11_1FirstError(t *testing.T) {
	env := faultEnv()
	for number := api.EField; number <= api.EIf; number++ {
		for _, first := range faults {
			one := read(t, first.s)
			if askedKids(number) == 1 {
				expectEval(t, filled(number, one), env, failed(first.code))
				continue
			}
			for _, second := range faults {
				two := read(t, second.s)
				expectEval(t, filled(number, one, two, two), env, failed(first.code))
				if number >= api.EBoth {
					continue
				}
				// Whatever the first comes to, the second's own error is met ahead of what they do not do together.
				for _, left := range []string{"null", "true", "1", "'a'", "l", "r"} {
					expectEval(t, filled(number, read(t, left), two), env, failed(second.code))
				}
			}
		}
	}
	expectRows(t, env, []row{{"1 / 0 + x", "", api.ErrEvalZero}, {"x + 1 / 0", "", api.ErrEvalName}, {"(1 + null) / 0", "", api.ErrEvalType}, {"null / 0", "", api.ErrEvalType}, {"null << 64", "", api.ErrEvalType}, {"1 / 0 == x", "", api.ErrEvalZero}, {"l[x][1 / 0]", "", api.ErrEvalName}, {"x.a[1 / 0]", "", api.ErrEvalName}, {"null[1 / 0]", "", api.ErrEvalZero}, {"r.f ~ r.f ~ l", "", api.ErrEvalLong}, {"l ~ (r.f ~ r.f)", "", api.ErrEvalLong}, {"l ~ r.f", "", api.ErrEvalType}})
}

// wrongTrees are trees that Print does not take, one of each kind.
func wrongTrees() []api.Expr {
	a := variable("a")
	return []api.Expr{
		{}, {Op: -1}, {Op: 32}, {Op: 99}, {Op: 32, Kids: []api.Expr{a, a}}, {Op: 1<<32 + api.ENull}, {Op: math.MinInt64}, {Op: math.MaxInt64},
		{Op: api.EInt, Int: -1}, {Op: api.EInt, Str: "1"}, {Op: api.ENull, Int: 1}, {Op: api.ETrue, Str: "true"}, {Op: api.EFalse, Kids: []api.Expr{a}},
		{Op: api.EStr, Str: "\xff"}, {Op: api.EStr, Str: "\t"}, {Op: api.EStr, Int: 1}, {Op: api.EStr, Str: strings.Repeat("a", api.MaxStr+1)},
		{Op: api.EVar}, {Op: api.EVar, Str: "A"}, {Op: api.EVar, Str: "null"}, {Op: api.EVar, Str: "true"}, {Op: api.EVar, Str: "a", Int: 1}, {Op: api.EVar, Str: strings.Repeat("a", api.MaxName+1)}, {Op: api.EVar, Str: "a", Kids: []api.Expr{a}},
		{Op: api.EField, Str: "a"}, {Op: api.EField, Kids: []api.Expr{a}}, {Op: api.EField, Str: "A", Kids: []api.Expr{a}}, {Op: api.EField, Str: "a", Kids: []api.Expr{a, a}},
		{Op: api.ECall, Kids: []api.Expr{a}}, {Op: api.ECall, Int: 9, Kids: []api.Expr{a}}, {Op: api.ECall, Int: -1, Kids: []api.Expr{a}}, {Op: api.ECall, Int: 1}, {Op: api.ECall, Int: 1, Kids: []api.Expr{a, a}},
		op(api.EIndex), op(api.EIndex, a), op(api.EIndex, a, a, a), op(api.ENeg), op(api.ENeg, a, a), op(api.ENot), op(api.EAdd), op(api.EAdd, a), op(api.EAdd, a, a, a), op(api.ESame, a), op(api.EBoth, a), op(api.EAny), op(api.EIf), op(api.EIf, a, a), op(api.EIf, a, a, a, a),
	}
}

func expectNone(t *testing.T, e api.Expr, env []api.Bind) {
	t.Helper()
	expectEval(t, e, env, failed(api.ErrEvalTree))
	if names := Names(e); len(names) != 0 {
		t.Errorf("names of %s: %q", shown(e), names)
	}
}

func TestP11_1P11_2WrongTrees(t *testing.T) {
	a := variable("a")
	for _, env := range [][]api.Bind{nil, {{Name: "a", Value: truth(true)}}, {{Name: "a"}}} {
		for _, bad := range wrongTrees() {
			expectNone(t, bad, env)
			for outer := api.EField; outer <= api.EIf; outer++ {
				for place := range askedKids(outer) {
					kids := []api.Expr{a, variable("b"), a}
					kids[place] = bad
					expectNone(t, filled(outer, kids...), env)
				}
			}
			// It need not be looked at, and other errors may be met ahead of it.
			for _, e := range []api.Expr{op(api.EBoth, op(api.EFalse), bad), op(api.EAny, op(api.ETrue), bad), op(api.EIf, op(api.EFalse), bad, a), op(api.EIf, op(api.ETrue), a, bad), op(api.EAdd, variable("x"), op(api.ENeg, bad))} {
				expectNone(t, e, env)
			}
		}
	}
	sum := a
	for range api.MaxExpr/2 - 1 {
		sum = op(api.EBoth, sum, a)
	}
	env := []api.Bind{{Name: "a", Value: truth(true)}}
	expectEval(t, sum, env, came(truth(true)))
	expectEval(t, op(api.ENot, sum), env, came(truth(false)))
	expectNone(t, op(api.ENot, op(api.ENot, sum)), env)
	expectNone(t, op(api.EBoth, sum, a), env)
}

// wrongValues are values that Check does not take, one of each kind.
func wrongValues() []api.Value {
	deep := null
	for range api.MaxDepth {
		deep = list(deep)
	}
	return []api.Value{
		{}, {Kind: -1}, {Kind: 7}, {Kind: 1<<32 + api.KInt}, {Kind: api.KNull, Int: 1}, {Kind: api.KBool, Str: "a"}, {Kind: api.KInt, Bool: true}, {Kind: api.KInt, List: []api.Value{null}}, {Kind: api.KStr, Int: 1}, {Kind: api.KList, Names: []string{"a"}},
		text("\xff"), text(strings.Repeat("a", api.MaxStr+1)), rec("a"), rec("a", null, null), rec("a,a", null, null), rec("\xff", null), deep, many(api.MaxItems), list(null, api.Value{}), rec("a", rec("b", text("\xc3"))),
	}
}

func TestP11_1WrongValues(t *testing.T) {
	a := variable("a")
	for i, bad := range wrongValues() {
		if value.Check(bad) == api.OK {
			t.Errorf("value %d may be", i)
		}
		for place := range 4 {
			env := []api.Bind{{Name: "a", Value: truth(true)}, {Name: "b", Value: number(1)}, {Name: "a", Value: truth(false)}, {Name: "", Value: null}}
			env[place].Value = bad
			for _, e := range []api.Expr{a, variable("b"), variable("x"), op(api.ENull), op(api.EDiv, api.Expr{Op: api.EInt, Int: 1}, api.Expr{Op: api.EInt}), op(api.EAny, op(api.ETrue), a)} {
				expectEval(t, e, env, failed(api.ErrEvalTree))
			}
			expectEval(t, api.Expr{}, env, failed(api.ErrEvalTree))
		}
	}
}

func TestP11_1Random(t *testing.T) {
	m, met := maker{rand.New(rand.NewSource(3)), 2}, map[api.Errno]int{}
	for range 4000 {
		env := m.env()
		for range 10 {
			want := expectAsked(t, m.tree(5, 1+m.Intn(6)), env)
			met[want.code]++
		}
	}
	for code := api.ErrEvalName; code <= api.ErrEvalLong; code++ {
		if met[code] < 10 {
			t.Errorf("%d was asked for %d times", code, met[code])
		}
	}
	if met[api.OK] < 10000 {
		t.Errorf("only %d came to a value", met[api.OK])
	}
}

func TestP11_2Names(t *testing.T) {
	for s, want := range map[string]string{
		"b.a + a[b] ? c.d : len(a) ~ len": "b a c len", "a": "a", "1": "", "null": "", "'a'": "", "a.b": "a", "a[b]": "a b", "b[a]": "b a", "a + a": "a", "a.b.c[d.e[f]]": "a d f",
		"a ? b : c": "a b c", "c ? b : a": "c b a", "true || x": "x", "false && y": "y", "true ? x : y": "x y", "-z": "z", "!z": "z", "len(z)": "z", "i8(i8)": "i8", "str('a' ~ b)": "b", "a - (b - (c - a))": "a b c", "nulls": "nulls", "a.null": "a",
	} {
		expectNames(t, read(t, s), strings.Fields(want)...)
	}
	for number := api.EIndex; number <= api.EIf; number++ {
		kids := []api.Expr{variable("c"), variable("a"), variable("b")}
		expectNames(t, filled(number, kids...), []string{"c", "a", "b"}[:askedKids(number)]...)
	}
	e, want := variable("n0"), []string{"n0"}
	for i := 1; i < api.MaxExpr/2; i++ {
		name := "n" + strconv.Itoa(i)
		e, want = op(api.ESub, e, variable(name)), append(want, name)
	}
	expectNames(t, e, want...)
	expectNames(t, op(api.ENeg, e), want...)
	expectNames(t, op(api.ENeg, op(api.ENeg, e)))
}

func TestP11_2Random(t *testing.T) {
	m := maker{rand.New(rand.NewSource(4)), 30}
	for range 5000 {
		e := m.tree(6, 1+m.Intn(6))
		expectNames(t, e, askedNames(e)...)
	}
}

// without is env but for what binds one of the names.
func without(env []api.Bind, names []string) []api.Bind {
	rest := []api.Bind{}
	for _, b := range env {
		if !slices.Contains(names, b.Name) {
			rest = append(rest, b)
		}
	}
	return rest
}

func TestP11_3NamesAlone(t *testing.T) {
	m := maker{rand.New(rand.NewSource(5)), 5}
	for range 2000 {
		e, env := m.tree(4, 1+m.Intn(6)), m.env()
		v, code := Eval(e, env)
		if code == api.OK && value.Check(v) != api.OK {
			t.Errorf("%s: %v may not be", shown(e), v)
		}
		want := answer{v, code}
		names := Names(e)
		other := without(m.env(), names)
		for _, b := range env {
			if slices.Contains(names, b.Name) {
				other = append(other, b)
			}
		}
		expectEval(t, e, other, want)
		expectEval(t, e, append(other, without(m.env(), names)...), want)
		expectEval(t, e, append([]api.Bind{{Name: "free", Value: null}}, env...), want)
		if len(names) == 0 {
			expectEval(t, e, nil, want)
			expectEval(t, e, m.env(), want)
		}
	}
}

func TestP11_3WithoutNames(t *testing.T) {
	m := maker{rand.New(rand.NewSource(6)), 10}
	for _, s := range []string{"1 + 2 * 3", "'a' ~ 'b' == 'ab'", "1 / 0", "!1", "true ? 'x' : 1 / 0", "null", "len('abc') << 2", "'a'.b"} {
		e := read(t, s)
		expectNames(t, e)
		v, code := Eval(e, nil)
		for range 50 {
			expectEval(t, e, m.env(), answer{v, code})
		}
	}
}
