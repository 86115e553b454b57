package expr

import (
	"fmt"
	"math"
	"math/rand"
	"strings"
	"testing"
	"unicode/utf8"

	"stencil/api"
)

// cut is s, shortened for a message.
func cut(s string) string {
	if len(s) > 80 {
		return fmt.Sprintf("%q.. (%d bytes)", s[:80], len(s))
	}
	return fmt.Sprintf("%q", s)
}

// shown is e, shortened for a message.
func shown(e api.Expr) string {
	return cut(fmt.Sprint(e))
}

func expectTree(t *testing.T, s string, want api.Expr) {
	t.Helper()
	e, at, code := Parse(s)
	if !alike(e, want) || at != 0 || code != api.OK {
		t.Errorf("Parse of %s: %s, %d, %d, want %s", cut(s), shown(e), at, code, shown(want))
	}
}

func expectFault(t *testing.T, s string, want api.Errno, place int) {
	t.Helper()
	e, at, code := Parse(s)
	if at != place || code != want {
		t.Errorf("Parse of %s: %d at %d, want %d at %d", cut(s), code, at, want, place)
	}
	if !alike(e, api.Expr{}) {
		t.Errorf("Parse of %s: beside %d stands %s", cut(s), code, shown(e))
	}
}

// expectAsked holds Parse of s against the oracle, and answers what was asked.
func expectAsked(t *testing.T, s string) answer {
	t.Helper()
	want := askedParse(s)
	if want.code == api.OK {
		expectTree(t, s, want.e)
	} else {
		expectFault(t, s, want.code, want.at)
	}
	return want
}

func expectPrint(t *testing.T, e api.Expr, want string) {
	t.Helper()
	if s, code := Print(e); s != want || code != api.OK {
		t.Errorf("Print of %s: %s, %d, want %s", shown(e), cut(s), code, cut(want))
	}
}

func expectRefused(t *testing.T, name string, e api.Expr) {
	t.Helper()
	if s, code := Print(e); s != "" || code != api.ErrExprTree {
		t.Errorf("Print of %s: %s, %d", name, cut(s), code)
	}
}

var a, b, c, d = variable("a"), variable("b"), variable("c"), variable("d")

// written are texts of every part of the grammar, with the tree that they say and the text that is printed of it.
var written = []struct {
	s    string
	e    api.Expr
	text string
}{
	{"null", op(api.ENull), "null"}, {"false", op(api.EFalse), "false"}, {"true", op(api.ETrue), "true"},
	{"0", num(0), "0"}, {"7", num(7), "7"}, {"10", num(10), "10"}, {"9223372036854775807", num(math.MaxInt64), "9223372036854775807"},
	{"''", str(""), "''"}, {"'a'", str("a"), "'a'"}, {`'\'\\\}\n'`, str("'\\}\n"), `'\'\\\}\n'`}, {"' }\x7f\"é€😀\ufffd'", str(" }\x7f\"é€😀\ufffd"), "' \\}\x7f\"é€😀\ufffd'"}, {`'a b+c'`, str("a b+c"), `'a b+c'`}, {`'\\n'`, str(`\n`), `'\\n'`},
	{"a", a, "a"}, {"a_1z", variable("a_1z"), "a_1z"}, {"nulls", variable("nulls"), "nulls"}, {"truefalse", variable("truefalse"), "truefalse"}, {"null_", variable("null_"), "null_"},
	{"len", variable("len"), "len"}, {"str", variable("str"), "str"}, {"i8", variable("i8"), "i8"}, {"u8", variable("u8"), "u8"}, {"i16", variable("i16"), "i16"}, {"u16", variable("u16"), "u16"}, {"i32", variable("i32"), "i32"}, {"u32", variable("u32"), "u32"}, {"i64", variable("i64"), "i64"},
	{"len(a)", call(api.CallLen, a), "len(a)"}, {"str (a)", call(api.CallStr, a), "str(a)"}, {"i8\n( a )", call(api.CallI8, a), "i8(a)"}, {"u8(a)", call(api.CallU8, a), "u8(a)"}, {"i16(a)", call(api.CallI16, a), "i16(a)"}, {"u16(a)", call(api.CallU16, a), "u16(a)"}, {"i32(a)", call(api.CallI32, a), "i32(a)"}, {"u32(a)", call(api.CallU32, a), "u32(a)"},
	{"len((a))", call(api.CallLen, a), "len(a)"}, {"len(a?b:c)", call(api.CallLen, op(api.EIf, a, b, c)), "len(a ? b : c)"}, {"(len)", variable("len"), "len"}, {"len.a", field(variable("len"), "a"), "len.a"}, {"len[a]", op(api.EIndex, variable("len"), a), "len[a]"}, {"len+len(len)", op(api.EAdd, variable("len"), call(api.CallLen, variable("len"))), "len + len(len)"},
	{"a.b", field(a, "b"), "a.b"}, {"a.b.c", field(field(a, "b"), "c"), "a.b.c"}, {"a.null", field(a, "null"), "a.null"}, {"a.false.true.len.u8", field(field(field(field(a, "false"), "true"), "len"), "u8"), "a.false.true.len.u8"}, {"1.a", field(num(1), "a"), "1.a"}, {"'x'.a", field(str("x"), "a"), "'x'.a"}, {"null.a", field(op(api.ENull), "a"), "null.a"}, {"len(a).b", field(call(api.CallLen, a), "b"), "len(a).b"}, {"(a).b", field(a, "b"), "a.b"}, {"(a+b).c", field(op(api.EAdd, a, b), "c"), "(a + b).c"}, {"(-a).b", field(op(api.ENeg, a), "b"), "(-a).b"},
	{"a[b]", op(api.EIndex, a, b), "a[b]"}, {"a[b][c]", op(api.EIndex, op(api.EIndex, a, b), c), "a[b][c]"}, {"a[b[c]]", op(api.EIndex, a, op(api.EIndex, b, c)), "a[b[c]]"}, {"a[b].c[d]", op(api.EIndex, field(op(api.EIndex, a, b), "c"), d), "a[b].c[d]"}, {"a[b?c:d]", op(api.EIndex, a, op(api.EIf, b, c, d)), "a[b ? c : d]"}, {"a[(b)]", op(api.EIndex, a, b), "a[b]"}, {"2[3]", op(api.EIndex, num(2), num(3)), "2[3]"}, {"'x'[0]", op(api.EIndex, str("x"), num(0)), "'x'[0]"}, {"(a?b:c)[d]", op(api.EIndex, op(api.EIf, a, b, c), d), "(a ? b : c)[d]"},
	{"-a", op(api.ENeg, a), "-a"}, {"!a", op(api.ENot, a), "!a"}, {"--a", op(api.ENeg, op(api.ENeg, a)), "--a"}, {"-!-a", op(api.ENeg, op(api.ENot, op(api.ENeg, a))), "-!-a"}, {"-a.b", op(api.ENeg, field(a, "b")), "-a.b"}, {"!a[b]", op(api.ENot, op(api.EIndex, a, b)), "!a[b]"}, {"-1", op(api.ENeg, num(1)), "-1"}, {"-(a)", op(api.ENeg, a), "-a"}, {"-(a*b)", op(api.ENeg, op(api.EMul, a, b)), "-(a * b)"}, {"-a*b", op(api.EMul, op(api.ENeg, a), b), "-a * b"}, {"!a==b", op(api.ESame, op(api.ENot, a), b), "!a == b"}, {"-len(a)", op(api.ENeg, call(api.CallLen, a)), "-len(a)"}, {"!(a?b:c)", op(api.ENot, op(api.EIf, a, b, c)), "!(a ? b : c)"},
	{"a*b", op(api.EMul, a, b), "a * b"}, {"a/b", op(api.EDiv, a, b), "a / b"}, {"a%b", op(api.EMod, a, b), "a % b"}, {"a+b", op(api.EAdd, a, b), "a + b"}, {"a-b", op(api.ESub, a, b), "a - b"}, {"a~b", op(api.ECat, a, b), "a ~ b"}, {"a<<b", op(api.EShl, a, b), "a << b"}, {"a>>b", op(api.EShr, a, b), "a >> b"}, {"a&b", op(api.EAnd, a, b), "a & b"}, {"a^b", op(api.EXor, a, b), "a ^ b"}, {"a|b", op(api.EOr, a, b), "a | b"},
	{"a<b", op(api.ELess, a, b), "a < b"}, {"a<=b", op(api.EMost, a, b), "a <= b"}, {"a>b", op(api.EMore, a, b), "a > b"}, {"a>=b", op(api.ELeast, a, b), "a >= b"}, {"a==b", op(api.ESame, a, b), "a == b"}, {"a!=b", op(api.EOther, a, b), "a != b"}, {"a&&b", op(api.EBoth, a, b), "a && b"}, {"a||b", op(api.EAny, a, b), "a || b"},
	{"a?b:c", op(api.EIf, a, b, c), "a ? b : c"}, {"a?b:c?d:a", op(api.EIf, a, b, op(api.EIf, c, d, a)), "a ? b : c ? d : a"}, {"a?b?c:d:a", op(api.EIf, a, op(api.EIf, b, c, d), a), "a ? b ? c : d : a"}, {"(a?b:c)?d:a", op(api.EIf, op(api.EIf, a, b, c), d, a), "(a ? b : c) ? d : a"}, {"a?(b?c:d):(a?b:c)", op(api.EIf, a, op(api.EIf, b, c, d), op(api.EIf, a, b, c)), "a ? b ? c : d : a ? b : c"}, {"a||b?c:d", op(api.EIf, op(api.EAny, a, b), c, d), "a || b ? c : d"}, {"a||(b?c:d)", op(api.EAny, a, op(api.EIf, b, c, d)), "a || (b ? c : d)"}, {"a?b||c:d||a", op(api.EIf, a, op(api.EAny, b, c), op(api.EAny, d, a)), "a ? b || c : d || a"},
	{"a-b-c", op(api.ESub, op(api.ESub, a, b), c), "a - b - c"}, {"a-(b-c)", op(api.ESub, a, op(api.ESub, b, c)), "a - (b - c)"}, {"a/b*c%d", op(api.EMod, op(api.EMul, op(api.EDiv, a, b), c), d), "a / b * c % d"}, {"a+b*c", op(api.EAdd, a, op(api.EMul, b, c)), "a + b * c"}, {"(a+b)*c", op(api.EMul, op(api.EAdd, a, b), c), "(a + b) * c"}, {"a--b", op(api.ESub, a, op(api.ENeg, b)), "a - -b"}, {"a- - -b", op(api.ESub, a, op(api.ENeg, op(api.ENeg, b))), "a - --b"}, {"a<-b", op(api.ELess, a, op(api.ENeg, b)), "a < -b"}, {"a&&!b", op(api.EBoth, a, op(api.ENot, b)), "a && !b"}, {"a!=!b", op(api.EOther, a, op(api.ENot, b)), "a != !b"},
	{"a<b==c", op(api.ESame, op(api.ELess, a, b), c), "a < b == c"}, {"a==b<c", op(api.ESame, a, op(api.ELess, b, c)), "a == b < c"}, {"a&b==c", op(api.ESame, op(api.EAnd, a, b), c), "a & b == c"}, {"a~b+c~d", op(api.ECat, op(api.ECat, a, op(api.EAdd, b, c)), d), "a ~ b + c ~ d"}, {"a<<b~c", op(api.EShl, a, op(api.ECat, b, c)), "a << b ~ c"}, {"a|b^c&d<<a", op(api.EOr, a, op(api.EXor, b, op(api.EAnd, c, op(api.EShl, d, a)))), "a | b ^ c & d << a"}, {"a&&b||c&&d", op(api.EAny, op(api.EBoth, a, b), op(api.EBoth, c, d)), "a && b || c && d"}, {"a<b<c", op(api.ELess, op(api.ELess, a, b), c), "a < b < c"}, {"a<b>=c", op(api.ELeast, op(api.ELess, a, b), c), "a < b >= c"}, {"a>>b>=c", op(api.ELeast, op(api.EShr, a, b), c), "a >> b >= c"}, {"a==b!=c", op(api.EOther, op(api.ESame, a, b), c), "a == b != c"}, {"a<<b>>c", op(api.EShr, op(api.EShl, a, b), c), "a << b >> c"},
}

func TestP10_1Rows(t *testing.T) {
	for s, want := range map[string]string{"a.b[0]+1": "a.b[0] + 1", "-(a~'x') ? !b : ((c))": "-(a ~ 'x') ? !b : c"} {
		e, at, code := Parse(s)
		if at != 0 || code != api.OK {
			t.Errorf("Parse of %q: %d, %d", s, at, code)
		}
		expectPrint(t, e, want)
	}
	for s, at := range map[string]int{"": 0, "a b": 2, "a +": 3, "f(1)": 1, "01": 1, "a.1": 2, "'a": 2, "9223372036854775808": 0, "A": 0} {
		expectFault(t, s, api.ErrExprForm, at)
	}
	expectTree(t, "len", variable("len"))
	expectTree(t, "len(a)", call(api.CallLen, a))
}

func TestP10_1Trees(t *testing.T) {
	for _, w := range written {
		expectTree(t, w.s, w.e)
		expectTree(t, w.text, w.e)
		expectTree(t, "("+w.s+")", w.e)
		expectTree(t, "(( "+w.s+"\n) )", w.e)
		expectTree(t, "-("+w.s+")", op(api.ENeg, w.e))
		expectTree(t, "u32("+w.s+")", call(api.CallU32, w.e))
		expectTree(t, "d["+w.s+"].x", field(op(api.EIndex, d, w.e), "x"))
		expectTree(t, "d?"+w.s+":"+w.s, op(api.EIf, d, w.e, w.e))
		expectTree(t, "("+w.s+")?("+w.s+"):d", op(api.EIf, w.e, w.e, d))
		expectAsked(t, w.s)
	}
}

// TestP10_1Signs lays each two signs between three operands: which of them is read first is the grammar's.
func TestP10_1Signs(t *testing.T) {
	for _, one := range askedSigns {
		low, first, ok := askedTwo(one)
		if !ok {
			continue
		}
		for _, two := range askedSigns {
			high, second, ok := askedTwo(two)
			if !ok {
				continue
			}
			want := op(second, op(first, a, b), c)
			if high > low {
				want = op(first, a, op(second, b, c))
			}
			expectTree(t, "a"+one+"b"+two+"c", want)
			expectTree(t, "a "+one+" b\n"+two+"\tc", want)
			expectTree(t, "a"+one+"(b"+two+"c)", op(first, a, op(second, b, c)))
			expectTree(t, "(a"+one+"b)"+two+"c", op(second, op(first, a, b), c))
			expectTree(t, "!a"+one+"-b.x"+two+"-!c[d]", op(want.Op, signed(want.Kids)...))
		}
		expectTree(t, "a"+one+"b?c"+one+"d:d"+one+"c", op(api.EIf, op(first, a, b), op(first, c, d), op(first, d, c)))
		if one != "-" {
			expectFault(t, one+"a", api.ErrExprForm, 0)
		}
		expectFault(t, "a"+one, api.ErrExprForm, 1+len(one))
		expectFault(t, "a"+one+" ", api.ErrExprForm, 2+len(one))
	}
}

// signed puts what the signs' test lays ahead of and behind each name.
func signed(kids []api.Expr) []api.Expr {
	out := []api.Expr{}
	for _, e := range kids {
		switch {
		case len(e.Kids) > 0:
			out = append(out, op(e.Op, signed(e.Kids)...))
		case e.Str == "a":
			out = append(out, op(api.ENot, e))
		case e.Str == "b":
			out = append(out, op(api.ENeg, field(e, "x")))
		default:
			out = append(out, op(api.ENeg, op(api.ENot, op(api.EIndex, e, d))))
		}
	}
	return out
}

// TestP10_1Blanks lays every byte ahead of and behind each token: the four blanks are read over, of all others none.
func TestP10_1Blanks(t *testing.T) {
	tokens := append(strings.Fields("- a . null [ 12 + len ( b ) ] <= ! ("), "'x y'")
	tokens = append(tokens, strings.Fields("~ true ) ? c : d >> 1")...)
	first := op(api.ENeg, op(api.EIndex, field(a, "null"), op(api.EAdd, num(12), call(api.CallLen, b))))
	test := op(api.EMost, first, op(api.ENot, op(api.ECat, str("x y"), op(api.ETrue))))
	want := op(api.EIf, test, c, op(api.EShr, d, num(1)))
	for at := range len(tokens) + 1 {
		ahead, behind := strings.Join(tokens[:at], ""), strings.Join(tokens[at:], "")
		for c := range 256 {
			s := ahead + string([]byte{byte(c)}) + behind
			if c == 32 || c == 9 || c == 10 || c == 13 {
				expectTree(t, s, want)
				expectTree(t, ahead+strings.Repeat(string(rune(c)), 3)+" \t\r\n"+behind, want)
			} else {
				expectAsked(t, s)
			}
		}
	}
	all := " \t\n\r\r\n\t "
	expectTree(t, all+strings.Join(tokens, all)+all, want)
	for _, other := range []string{"\x00", "\x0b", "\x0c", "\x1f", "\x7f", "\u0085", "\u00a0", "\u2028", "\ufeff", "#", ";", ",", "{", "}", `"`, "`", `\`, "@", "$", "_", "="} {
		expectFault(t, other+"1", api.ErrExprForm, 0)
		expectFault(t, "1"+other, api.ErrExprForm, 1)
		expectFault(t, "(a "+other+")", api.ErrExprForm, 3)
	}
	for s, at := range map[string]int{"1 0": 2, "n ull": 2, "a | | b": 4, "a & & b": 4, "a = = b": 2, "a ! = b": 2, "a < = b": 4, "a > = b": 4, "a < < b": 4, "a > > b": 4, "le n(a)": 3, "'a' 'b'": 4, `' \ n'`: 3, "a_ b": 3, "a. b c": 5} {
		expectFault(t, s, api.ErrExprForm, at)
	}
}

func TestP10_1Numbers(t *testing.T) {
	for s, n := range map[string]int{"0": 0, "1": 1, "9": 9, "10": 10, "100200": 100200, "9223372036854775807": math.MaxInt64, "9223372036854775806": math.MaxInt64 - 1, "999999999999999999": 999999999999999999, "1000000000000000000": 1000000000000000000} {
		expectTree(t, s, num(n))
		expectTree(t, "-"+s, op(api.ENeg, num(n)))
		expectTree(t, "a["+s+"]", op(api.EIndex, a, num(n)))
	}
	for _, s := range []string{"9223372036854775808", "9223372036854775810", "9999999999999999999", "10000000000000000000", "18446744073709551615", "18446744073709551616", "18446744073709551617", "36893488147419103232", strings.Repeat("9", 60000), "1" + strings.Repeat("0", 60000)} {
		for _, behind := range []string{"", "a", " 1", ".x", "#", "\xff", "("} {
			expectFault(t, s+behind, api.ErrExprForm, 0)
			expectFault(t, "-"+s+behind, api.ErrExprForm, 1)
			expectFault(t, "a + "+s+behind, api.ErrExprForm, 4)
			expectFault(t, "a "+s+behind, api.ErrExprForm, 2)
		}
	}
	for s, at := range map[string]int{"00": 1, "01": 1, "007": 1, "1a": 1, "0a": 1, "0x1": 1, "1_0": 1, "1.5": 2, ".5": 0, "1e5": 1, "1.": 2, "1..a": 2, "+1": 0, "0 0": 2, "09223372036854775808": 1, "12 34": 3, "1'a'": 1, "１": 0, "٣": 0} {
		expectFault(t, s, api.ErrExprForm, at)
	}
}

func TestP10_1Names(t *testing.T) {
	full := "z" + strings.Repeat("_", api.MaxName-2) + "9"
	expectTree(t, full, variable(full))
	expectTree(t, "a."+full, field(a, full))
	expectTree(t, full+"[a]", op(api.EIndex, variable(full), a))
	for _, long := range []string{full + "a", full + "_", full + "0", full + full, strings.Repeat("a", 60000)} {
		for _, behind := range []string{"", " ", "+", "(a)", "#", ".a"} {
			expectFault(t, long+behind, api.ErrExprForm, 0)
			expectFault(t, "a."+long+behind, api.ErrExprForm, 2)
			expectFault(t, "a "+long+behind, api.ErrExprForm, 2)
			expectFault(t, "len("+long+behind, api.ErrExprForm, 4)
		}
	}
	for s, at := range map[string]int{"A": 0, "aB": 1, "_": 0, "_a": 0, "a-": 2, "é": 0, "aé": 1, "a$": 1, "a.": 2, "a._b": 2, "a.B": 2, "a.9": 2, "a.'b'": 2, "a.(b)": 2, "a.[b]": 2, "a.-b": 2, "a..b": 2, ".a": 0, "a . ": 4, "a.b c": 4, "Null": 0, "nulL": 3, "a,b": 1} {
		expectFault(t, s, api.ErrExprForm, at)
	}
	for _, word := range []string{"null", "false", "true", "a", "i64", "u64", "i", "u", "i9", "lens", "le", "string", "length", "f"} {
		expectFault(t, word+"(a)", api.ErrExprForm, len(word))
		expectFault(t, word+" (", api.ErrExprForm, len(word)+1)
		expectFault(t, "("+word+")(a)", api.ErrExprForm, len(word)+2)
	}
	for c := range 256 {
		expectAsked(t, string([]byte{byte(c)}))
		for d := range 256 {
			expectAsked(t, string([]byte{byte(c), byte(d)}))
			expectAsked(t, "a"+string([]byte{byte(c), byte(d)})+"b")
		}
	}
}

func TestP10_1Calls(t *testing.T) {
	for i, word := range askedCalls {
		expectTree(t, word, variable(word))
		expectTree(t, word+"(a)", call(i+1, a))
		expectTree(t, word+" \n (a)", call(i+1, a))
		expectTree(t, "a."+word, field(a, word))
		expectTree(t, word+"."+word, field(variable(word), word))
		expectTree(t, word+" + 1", op(api.EAdd, variable(word), num(1)))
		expectTree(t, word+"["+word+"("+word+")]", op(api.EIndex, variable(word), call(i+1, variable(word))))
		for behind, at := range map[string]int{"()": 1, "(a": 2, "(a]": 2, "(a,b)": 2, "(a)(b)": 3, "(a)b": 3, "(": 1, "(a b)": 3, " a": 1, "#": 0, " #": 1, "'a'": 0, "((a)": 4} {
			expectFault(t, word+behind, api.ErrExprForm, len(word)+at)
		}
		expectFault(t, "a."+word+"(a)", api.ErrExprForm, 2+len(word))
		expectFault(t, "("+word+")(a)", api.ErrExprForm, 2+len(word))
	}
}

// TestP10_1Characters lays each character that there is into a text, as it is and behind a `\`.
func TestP10_1Characters(t *testing.T) {
	escapes := map[rune]string{'\'': "'", '\\': `\`, '}': "}", 'n': "\n"}
	for c := rune(0); c <= utf8.MaxRune; c++ {
		if !utf8.ValidRune(c) {
			continue
		}
		s := "'" + string(c) + "'"
		switch {
		case c < 32:
			expectFault(t, s, api.ErrExprForm, 1)
		case c == '\'':
			expectFault(t, s, api.ErrExprForm, 3)
		case c == '\\':
			expectFault(t, s, api.ErrExprForm, 3)
		default:
			if e, at, code := Parse(s); code != api.OK || at != 0 || e.Op != api.EStr || e.Str != string(c) {
				t.Fatalf("U+%04X: %v, %d, %d", c, e, at, code)
			}
		}
		if c > 0x3000 && c%97 != 0 {
			continue
		}
		s = `a ~ '\` + string(c) + "x'"
		if plain, ok := escapes[c]; ok {
			expectTree(t, s, op(api.ECat, a, str(plain+"x")))
		} else {
			expectFault(t, s, api.ErrExprForm, 6)
		}
	}
}

func TestP10_1Texts(t *testing.T) {
	for s, want := range map[string]string{`''`: "", `'a'`: "a", `'\''`: "'", `'\\'`: `\`, `'\}\}'`: "}}", `'}'`: "}", `'\n'`: "\n", `'\\n'`: `\n`, `'\\\''`: `\'`, `'"'`: `"`, `'{{ a }}'`: "{{ a }}", "'\ufffd'": "\ufffd", "'\x7f'": "\x7f", "'\u0080'": "\u0080", "' '": " "} {
		expectTree(t, s, str(want))
		expectTree(t, s+"~"+s, op(api.ECat, str(want), str(want)))
	}
	for s, at := range map[string]int{
		`'`: 1, `'a`: 2, `'é`: 3, `'\`: 2, `'a\`: 3, `'\'`: 3, `'\\`: 3, `'''`: 3, `'a'b'`: 3, `'a' 'b'`: 4, `'\x'`: 2, `'\t'`: 2, `'\N'`: 2, `'\0'`: 2, `'\{'`: 2, `'\"'`: 2, `'\u0041'`: 2, `'\ n'`: 2, "'\\\n'": 2, "'\\\xff'": 2, "'\\\xc3": 2, "'\\é'": 2,
		`"a"`: 0, "`a`": 0, `\'a'`: 0, "'a\tb'": 2, "'\n'": 1, "'\r'": 1, "'\x00'": 1, "'é\x1f'": 3, "1'b'": 1, "'b'a": 3, "'b'1": 3, "'\t": 1, "'a\n": 2,
	} {
		expectFault(t, s, api.ErrExprForm, at)
		expectFault(t, "(a + "+s, api.ErrExprForm, at+5)
	}
	for _, bad := range []string{"\x80", "\xbf", "\xc0\x80", "\xc1\xbf", "\xc3", "\xc3\xc3", "\xe0\x80\x80", "\xe0\x9f\xbf", "\xe2\x82", "\xe2\x28\xa1", "\xed\xa0\x80", "\xed\xbf\xbf", "\xef\xbf", "\xf0\x80\x80\x80", "\xf0\x8f\xbf\xbf", "\xf0\x9f\x98", "\xf4\x90\x80\x80", "\xf5\x80\x80\x80", "\xf8\x88\x80\x80\x80", "\xfe", "\xff"} {
		for _, behind := range []string{"", "'", "a'", `\n'`, "\x00", "é'"} {
			expectFault(t, "'"+bad+behind, api.ErrExprForm, 1)
			expectFault(t, "'aé"+bad+behind, api.ErrExprForm, 4)
			expectFault(t, `a.b ~ '\n`+bad+behind, api.ErrExprForm, 9)
			expectFault(t, bad+behind, api.ErrExprForm, 0)
			expectFault(t, "a "+bad+behind, api.ErrExprForm, 2)
		}
	}
	for c := range 0x10000 {
		expectAsked(t, "'"+string([]byte{byte(c >> 8), byte(c)})+"'")
	}
}

func TestP10_1LongTexts(t *testing.T) {
	full := strings.Repeat("a", api.MaxStr)
	for _, c := range []struct{ body, plain string }{
		{full, full}, {strings.Repeat("é", api.MaxStr/2), strings.Repeat("é", api.MaxStr/2)}, {strings.Repeat(`\n`, api.MaxStr), strings.Repeat("\n", api.MaxStr)}, {strings.Repeat(`\'`, api.MaxStr), strings.Repeat("'", api.MaxStr)}, {full[3:] + `\}}\\`, full[3:] + `}}\`}, {full[4:] + "😀", full[4:] + "😀"},
	} {
		expectTree(t, "'"+c.body+"'", str(c.plain))
		expectTree(t, "'"+c.body+"' ~ '"+c.body+"'", op(api.ECat, str(c.plain), str(c.plain)))
		for _, more := range []string{"a", "é", `\n`, `\'`, `\\`, " "} {
			long := "'" + c.body + more
			expectFault(t, long+"'", api.ErrExprLarge, 0)
			expectFault(t, " \n"+long+"'", api.ErrExprLarge, 2)
			expectFault(t, "a + "+long+"'", api.ErrExprLarge, 4)
			expectFault(t, "a "+long+"'", api.ErrExprLarge, 2)
			expectFault(t, "a."+long+"'", api.ErrExprLarge, 2)
			expectFault(t, long+"' 'b", api.ErrExprLarge, 0)
			expectFault(t, long+"'#", api.ErrExprLarge, 0)
			expectFault(t, long, api.ErrExprForm, len(long))
			expectFault(t, long+"\n'", api.ErrExprForm, len(long))
			expectFault(t, long+"\xff'", api.ErrExprForm, len(long))
			expectFault(t, long+`\x'`, api.ErrExprForm, len(long)+1)
			expectFault(t, long+`\`, api.ErrExprForm, len(long)+1)
			expectFault(t, strings.Repeat("(", api.MaxExprDepth)+long+"'", api.ErrExprLarge, api.MaxExprDepth)
			expectFault(t, strings.Repeat("a+", api.MaxExpr/2)+long+"'", api.ErrExprLarge, api.MaxExpr)
		}
	}
	expectFault(t, "'"+strings.Repeat("a", 200000)+"'", api.ErrExprLarge, 0)
	expectFault(t, "'"+strings.Repeat("a", 200000), api.ErrExprForm, 200001)
}

// TestP10_1Ends cuts each text behind each of its bytes: it ends too soon, but where what is left is a whole one.
func TestP10_1Ends(t *testing.T) {
	for _, w := range written {
		for _, s := range []string{w.s, w.text} {
			for end := range len(s) {
				want := expectAsked(t, s[:end])
				inside := strings.HasSuffix(s[:end], "=") || strings.HasSuffix(s[:end], "!") || !utf8.ValidString(s[:end])
				if want.code != api.OK && !inside && (want.code != api.ErrExprForm || want.at != end) {
					t.Errorf("%q: %d at %d was asked for", s[:end], want.code, want.at)
				}
			}
		}
	}
	for _, s := range []string{"", " ", "\t\n\r ", "(", "( ", "((", "(a", "(a ", "((a)", "a[", "a[b", "a[b ", "a[b][", "a.", "a. ", "a ?", "a ? b", "a ? b ", "a ? b :", "a ? b : ", "a ? b ? c : d", "-", "- ", "!", "-!", "a +", "a + ", "a + -", "a + (", "len(", "len(a", "len(a ", "a ? (b", "a[(b", "a || ", "(a ? b : c"} {
		expectFault(t, s, api.ErrExprForm, len(s))
		expectFault(t, s+" \t\n\r", api.ErrExprForm, len(s)+4)
	}
}

func TestP10_1Form(t *testing.T) {
	for s, at := range map[string]int{
		")": 0, "]": 0, ":": 0, "?": 0, ".": 0, "[": 0, "=": 0, "a)": 1, "a]": 1, "a:": 1, "a:b": 1, "()": 1, "(])": 1, "a[]": 2, "a[)": 2, "a[b)": 3, "(a]": 2, "(a:b)": 2, "(a))": 3, "[a]": 0, "a?:b": 2, "a?b": 3, "a?b)": 3, "a?b]": 3, "a?b:": 4, "a?b:)": 4, "a?b:c:d": 5, "a?b:c)": 5, "(a?b)": 4, "a[b?c]": 5, "(a?b:c": 6, "a??b:c": 2, "?a:b": 0, "a ? b ? c : d": 13, "a?(b:c)": 4,
		"a b": 2, "a 1": 2, "1 a": 2, "a(b)": 1, "(a)b": 3, "(a)(b)": 3, "(a)1": 3, "a[b]c": 4, "a[b](c)": 4, "a.b(c)": 3, "null a": 5, "true(a)": 4, "'a'(b)": 3, "1(a)": 1, "a!": 1, "a!b": 1, "a ! b": 2, "a-!": 3, "!+a": 1, "-*a": 1, "-.a": 1, "-)": 1, "a+*b": 2, "a**b": 2, "a//b": 2, "a+)": 2, "(+a)": 1,
		"a&&&b": 3, "a|||b": 3, "a<<<b": 3, "a>>>b": 3, "a>>>=b": 3, "a===b": 3, "a!==b": 3, "a<=>b": 3, "a<>b": 2, "a=b": 1, "a =": 2, "a=>b": 1, "a&|b": 2, "a|&b": 2, "a^^b": 2, "a~~b": 2, "!=a": 0, "a!=": 3, "a ,b": 2, "a;b": 1, "a@b": 1, "{a}": 0, "a}": 1, "a}}": 1, "$a": 0, `a\b`: 1, "a#": 1,
	} {
		expectFault(t, s, api.ErrExprForm, at)
		for _, ahead := range []string{"d+", "-", "d ? ", "d ? d : ", "d || !"} {
			expectAsked(t, ahead+s)
			expectAsked(t, ahead+"("+s)
			expectAsked(t, ahead+s+")")
			expectAsked(t, ahead+"d["+s+"]")
		}
	}
}

// TestP10_1Tokens holds rows of tokens against the oracle: all short ones and, of longer ones, those of which nothing is a fault but that they end too soon, and one token more.
func TestP10_1Tokens(t *testing.T) {
	for _, c := range []struct {
		tokens string
		most   int
	}{
		{"? : || && == != < <= > >= | ^ & << >> ~ + - * / % ! . [ ] ( ) a 1 'x' len null = #", 3},
		{"? : ( ) [ ] a - .", 7}, {"len ( ) . null 1 a", 7}, {"- ! a < <= [ ] &&", 6}, {"? : a || - ( )", 8},
	} {
		tokens := strings.Fields(c.tokens)
		var grow func(s string, left int)
		grow = func(s string, left int) {
			want := expectAsked(t, s)
			if left == 0 || want.code != api.OK && want.at < len(s) {
				return
			}
			for _, token := range tokens {
				grow(s+" "+token, left-1)
				if left < 3 {
					expectAsked(t, s+token)
				}
			}
		}
		grow("", c.most)
	}
}

func TestP10_1Large(t *testing.T) {
	row := func(n int) string { return strings.Repeat("a+", n/2) + strings.Repeat("a", n%2) }
	expectAsked(t, row(api.MaxExpr-1))
	sum := a
	for range api.MaxExpr/2 - 1 {
		sum = op(api.EAdd, sum, a)
	}
	expectTree(t, row(api.MaxExpr-1), sum)
	expectTree(t, "-"+row(api.MaxExpr-1), func() api.Expr {
		e := op(api.ENeg, a)
		for range api.MaxExpr/2 - 1 {
			e = op(api.EAdd, e, a)
		}
		return e
	}())
	fields := a
	for range api.MaxExpr/2 - 1 {
		fields = field(fields, "b")
	}
	expectTree(t, "a"+strings.Repeat(".b", api.MaxExpr/2-1)+" ", fields)
	expectFault(t, row(api.MaxExpr), api.ErrExprForm, api.MaxExpr)
	for _, more := range []string{"a", "1", "'x'", "(", ")", "+", "?", "!", "null", "a b", "a #", ".", strings.Repeat("a", api.MaxName)} {
		expectFault(t, row(api.MaxExpr)+more, api.ErrExprLarge, api.MaxExpr)
		expectFault(t, row(api.MaxExpr)+" \n"+more, api.ErrExprLarge, api.MaxExpr+2)
	}
	for bad, at := range map[string]int{"#": 0, "A": 0, "'": 1, "'\n": 1, `'\x'`: 2, "9223372036854775808": 0, strings.Repeat("a", api.MaxName+1): 0, "=": 0, "\xff": 0} {
		expectFault(t, row(api.MaxExpr)+bad, api.ErrExprForm, api.MaxExpr+at)
	}
	expectFault(t, row(api.MaxExpr-2)+"a a", api.ErrExprForm, api.MaxExpr)
	expectFault(t, row(api.MaxExpr-1)+")", api.ErrExprForm, api.MaxExpr-1)
	expectFault(t, row(api.MaxExpr-1)+" a a", api.ErrExprForm, api.MaxExpr)
	// What nests too deep and is too much at once is too much.
	deep := row(api.MaxExpr-api.MaxExprDepth) + strings.Repeat("(", api.MaxExprDepth)
	expectFault(t, deep+"a", api.ErrExprLarge, api.MaxExpr)
	expectFault(t, deep, api.ErrExprForm, api.MaxExpr)
	expectFault(t, deep[2:]+"a", api.ErrExprDeep, api.MaxExpr-2)
	for _, s := range []string{strings.Repeat("a ", 5000), strings.Repeat("a+", 5000), strings.Repeat("a.b+", 5000), strings.Repeat("a?", 20) + strings.Repeat("a-(b)-", 5000), "a" + strings.Repeat(".b", 5000), "a" + strings.Repeat("[0]", 5000)} {
		expectAsked(t, s)
	}
}

// ways are the ways in which something nests: what is laid ahead and behind, and how deep what is between lies by that.
var ways = []struct {
	opening, closing string
	by               int
}{
	{"(", ")", 1}, {"a[", "]", 1}, {"len(", ")", 1}, {"-", "", 1}, {"!", "", 1}, {"a ? ", " : a", 1}, {"a ? a : ", "", 1}, {"( ", " )", 1}, {"-(", ")", 2}, {"b+(", ")*2", 1}, {"a.b[c[", "]]", 2}, {"a ? (", ") : a", 2}, {"a || b ? a : !(", ")", 3},
}

func TestP10_1Deep(t *testing.T) {
	for _, w := range ways {
		for inner, at := range map[string]int{"b": 0, "'x'": 0, "1": 0, " b": 1, "b.c": 0, "b[0": -1, "(": 0, "-b": 0, ")": 0, "]": 0, ":": 0, "?": 0, "+": 0, "*b": 0, "b #": 0, "b c": 0, "null": 0, "len(a)": 0} {
			n := (api.MaxExprDepth - 1) / w.by
			left := strings.Repeat("(", api.MaxExprDepth-1-n*w.by)
			full := left + strings.Repeat(w.opening, n)
			if at >= 0 {
				expectFault(t, full+"("+inner, api.ErrExprDeep, len(full)+1+at)
				expectFault(t, full+"-"+inner, api.ErrExprDeep, len(full)+1+at)
				expectFault(t, full+"a["+inner, api.ErrExprDeep, len(full)+2+at)
				// A sign ahead ends ahead of a `?`.
				if !strings.ContainsAny(w.opening[len(w.opening)-1:], "-!") {
					expectFault(t, full+"a?"+inner, api.ErrExprDeep, len(full)+2+at)
				}
				expectFault(t, full+"str("+inner, api.ErrExprDeep, len(full)+4+at)
			}
			expectAsked(t, full+inner)
			for more := range 5 {
				expectAsked(t, full+strings.Repeat(w.opening, more)+inner+strings.Repeat(w.closing, n+more)+strings.Repeat(")", len(left)))
			}
		}
		for n := range 2 * api.MaxExprDepth {
			s := strings.Repeat(w.opening, n) + "b" + strings.Repeat(w.closing, n)
			want := expectAsked(t, s)
			if deep := 1+n*w.by > api.MaxExprDepth; deep != (want.code == api.ErrExprDeep) {
				t.Errorf("%q: %d was asked for", s, want.code)
			}
		}
		for n := range 200 {
			expectAsked(t, strings.Repeat(w.opening, n))
		}
	}
}

func TestP10_1DeepEnds(t *testing.T) {
	full := strings.Repeat("(", api.MaxExprDepth-1)
	for _, ok := range []string{"a", "a+a", "a.b.c", "'x'", "a == b && c", "null"} {
		expectAsked(t, full+ok+strings.Repeat(")", api.MaxExprDepth-1))
		if want := askedParse(full + ok + strings.Repeat(")", api.MaxExprDepth-1)); want.code != api.OK {
			t.Errorf("%q: %d was asked for", ok, want.code)
		}
	}
	for s, at := range map[string]int{"": 0, "(": 1, "-": 1, "a[": 2, "a?": 2, "a ? ": 4, "len(": 4, "a": 1, "a b": 2, "a)b": 2, "a ]": 2, "a:": 1, "a.(": 2, "a.": 2, "a+": 2, "a+)": 2, ")": 0, "]": 0, "a!": 1, "#": 0, "'": 1, "(#": 1, "('": 2, "-A": 1, "a[9223372036854775808": 2} {
		expectFault(t, full+s, api.ErrExprForm, len(full)+at)
	}
	for s, at := range map[string]int{"((": 1, "()": 1, "-)": 1, "--": 1, "a[]": 2, "a[)": 2, "a?:": 2, "len()": 4, "len(-": 4, "a+-b": 3, "a.b[c": 4, "a+(b": 3, "!+": 1, "a?b:c": 2} {
		expectFault(t, full+s, api.ErrExprDeep, len(full)+at)
	}
	// Behind what nests the nesting is what it was ahead of it.
	minus := strings.Repeat("-", api.MaxExprDepth-1)
	choice := strings.Repeat("a ? b : ", api.MaxExprDepth-1)
	for s, at := range map[string]int{minus + "a + " + minus + "a": -1, minus + "a ? " + minus[1:] + "a : " + minus[1:] + "a": -1, "a[" + minus[1:] + "b][" + minus[1:] + "b]": -1, "(" + choice[8:] + "c) + (" + choice[8:] + "c)": -1, minus + "a ? -" + minus + "a : b": 4 + api.MaxExprDepth + api.MaxExprDepth - 2, choice + "-a": len(choice) + 1, minus + "a[b]": api.MaxExprDepth + 1, minus + "a.b.c": -1, minus + "a ? b : c ? d : " + minus[2:] + "e": -1, minus + "a ? b : c ? d : " + minus[1:] + "e": api.MaxExprDepth - 1 + 16 + api.MaxExprDepth - 2} {
		want := expectAsked(t, s)
		if at < 0 && want.code != api.OK || at >= 0 && (want.code != api.ErrExprDeep || want.at != at) {
			t.Errorf("%q: %d at %d was asked for, not %d", s, want.code, want.at, at)
		}
	}
}

// TestP10_1TwoFaults lays each fault ahead of each other one: the one that is met first is told.
func TestP10_1TwoFaults(t *testing.T) {
	long := "'" + strings.Repeat("a", api.MaxStr+1) + "'"
	faults := []struct {
		s    string
		at   int
		code api.Errno
	}{
		{"#", 0, api.ErrExprForm}, {"A", 0, api.ErrExprForm}, {"9223372036854775808", 0, api.ErrExprForm}, {strings.Repeat("a", 33), 0, api.ErrExprForm}, {"'\x01'", 1, api.ErrExprForm}, {`'\x'`, 2, api.ErrExprForm}, {"'\xff'", 1, api.ErrExprForm}, {"*", 0, api.ErrExprForm}, {"a b", 2, api.ErrExprForm}, {"a.1", 2, api.ErrExprForm}, {"01", 1, api.ErrExprForm}, {"a[]", 2, api.ErrExprForm},
		{long, 0, api.ErrExprLarge}, {strings.Repeat("a+", 300) + "a", api.MaxExpr - 2, api.ErrExprLarge}, {strings.Repeat("(", 40) + "a" + strings.Repeat(")", 40), api.MaxExprDepth, api.ErrExprDeep}, {strings.Repeat("!", 40) + "a", api.MaxExprDepth, api.ErrExprDeep},
	}
	for _, one := range faults {
		for _, two := range faults {
			for _, between := range []string{"+", " - ", " "} {
				expectFault(t, "d+"+one.s+between+two.s, one.code, one.at+2)
			}
		}
	}
}

func TestP10_1Random(t *testing.T) {
	codes := map[api.Errno]int{}
	m := maker{rand.New(rand.NewSource(10))}
	for range 4000 {
		e := m.tree(4)
		s := m.loose(e)
		if m.Intn(6) == 0 {
			w := ways[m.Intn(len(ways))]
			n := (24 + m.Intn(9)) / w.by
			s = strings.Repeat(w.opening, n) + s + strings.Repeat(w.closing, n)
		} else if askedParse(s).code == api.OK {
			expectTree(t, s, e)
		}
		codes[expectAsked(t, m.spoilt(s)).code]++
	}
	for _, code := range []api.Errno{api.OK, api.ErrExprForm, api.ErrExprDeep} {
		if codes[code] < 100 {
			t.Errorf("code %d was met %d times alone", code, codes[code])
		}
	}
}
