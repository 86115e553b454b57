package core

import (
	"fmt"
	"math"
	"slices"
	"strings"
	"testing"

	"stencil/api"
	"stencil/check"
	"stencil/syntax"
)

func v(place int) api.Expr { return api.Expr{Op: api.EVar, Int: place} }

func num(n int) api.Expr { return api.Expr{Op: api.EInt, Int: n} }

func str(s string) api.Expr { return api.Expr{Op: api.EStr, Str: s} }

func op(number int, kids ...api.Expr) api.Expr { return api.Expr{Op: number, Kids: kids} }

func part(e api.Expr, name string) api.Expr {
	return api.Expr{Op: api.EField, Str: name, Kids: []api.Expr{e}}
}

func call(number int, e api.Expr) api.Expr {
	return api.Expr{Op: api.ECall, Int: number, Kids: []api.Expr{e}}
}

func plain(s string) api.Part { return api.Part{Plain: s} }

func bound(e api.Expr) api.Part { return api.Part{Bound: true, Expr: e} }

func parts(ps ...api.Part) api.Core { return api.Core{Kind: api.CText, Parts: ps} }

func text(s string) api.Core { return parts(plain(s)) }

func hole(e api.Expr) api.Core { return parts(bound(e)) }

func elem(tag string, kids ...api.Core) api.Core {
	return api.Core{Kind: api.CElem, Tag: tag, Kids: kids}
}

func plainField(name, s string) api.Field { return api.Field{Name: name, Plain: s} }

func boundField(name string, e api.Expr) api.Field {
	return api.Field{Name: name, Bound: true, Expr: e}
}

func fields(c api.Core, fs ...api.Field) api.Core {
	c.Fields = fs
	return c
}

func when(test api.Expr, kids ...api.Core) api.Core {
	return api.Core{Kind: api.CIf, Exprs: []api.Expr{test}, Kids: kids}
}

func otherwise(c api.Core, els ...api.Core) api.Core {
	c.Else = els
	return c
}

func loop(list, key api.Expr, kids ...api.Core) api.Core {
	return api.Core{Kind: api.CFor, Exprs: []api.Expr{list, key}, Kids: kids}
}

func with(es []api.Expr, kids ...api.Core) api.Core {
	return api.Core{Kind: api.CWith, Exprs: es, Kids: kids}
}

func list(cs ...api.Core) []api.Core { return cs }

func nulls(n int) []api.Expr { return slices.Repeat([]api.Expr{{Op: api.ENull}}, n) }

// cut is a text that may be long, for a message.
func cut(s string) string {
	if len(s) > 300 {
		return s[:200] + " .. " + s[len(s)-60:]
	}
	return s
}

func shown(cs []api.Core) string { return cut(fmt.Sprintf("%+v", cs)) }

// expect holds what Check answers against a code and against the second way, and the other three against it alone.
func expect(t *testing.T, want api.Errno, cs ...api.Core) {
	t.Helper()
	if got := expectAsked(t, cs); got != want {
		t.Errorf("%s: %d was asked for, not %d", shown(cs), got, want)
	}
}

// expectAsked holds all four against the second way, and answers the code that it told.
func expectAsked(t *testing.T, cs []api.Core) api.Errno {
	t.Helper()
	all := laid(cs)
	want := askedCheck(all)
	if got := Check(cs); got != want {
		t.Errorf("Check of %s: %d, want %d", shown(cs), got, want)
	}
	if want != api.OK {
		all = nil
	}
	if got := Count(cs); got != len(all) {
		t.Errorf("Count of %s: %d, want %d", shown(cs), got, len(all))
	}
	if got, want := Loops(cs), askedLoops(all); got != want {
		t.Errorf("Loops of %s: %d, want %d", shown(cs), got, want)
	}
	if got, want := Statics(cs), askedStatics(all); !slices.Equal(got, want) {
		t.Errorf("Statics of %s: %v, want %v", shown(cs), got, want)
	}
	return want
}

// samples are nodes of each Kind, which may stand anywhere.
func samples() []api.Core {
	return []api.Core{
		text("a"), hole(v(0)), parts(plain("a"), bound(v(0)), plain("b"), bound(num(1)), bound(v(0))), parts(bound(v(0)), plain("a")),
		elem("p"), fields(elem("p"), plainField("a", ""), boundField("b", v(0)), plainField("c", "x")),
		when(v(0)), otherwise(when(v(0)), text("x")), otherwise(when(v(0), elem("b")), elem("c")),
		loop(v(0), v(1), elem("li")), loop(part(v(0), "xs"), part(v(2), "id"), elem("li", hole(v(2)))),
		with(nil), with(nil, text("x")), with([]api.Expr{v(0), num(1)}, hole(v(2))),
	}
}

// inside is one node in another, in each place where it may stand there; a for's element holds it, as just an element may stand in a for.
func inside(outer, inner api.Core) []api.Core {
	switch outer.Kind {
	case api.CText:
		return nil
	case api.CFor:
		held := outer.Kids[0]
		held.Kids = slices.Concat(held.Kids, list(inner, inner))
		outer.Kids = list(held)
		return list(outer)
	}
	in, behind := outer, outer
	in.Kids = list(inner)
	behind.Kids = slices.Concat(outer.Kids, list(inner, text("z")))
	out := list(in, behind)
	if outer.Kind == api.CIf {
		els := outer
		els.Else = slices.Concat(list(inner), outer.Else)
		out = append(out, els)
	}
	return out
}

// TestP15_1Kinds: each Kind alone, beside each other and inside each other.
func TestP15_1Kinds(t *testing.T) {
	expect(t, api.OK)
	expect(t, api.OK, []api.Core{}...)
	for _, a := range samples() {
		expect(t, api.OK, a)
		for _, b := range samples() {
			expect(t, api.OK, a, b)
			for _, c := range inside(a, b) {
				expect(t, api.OK, c)
				expect(t, api.OK, text("x"), c, text("x"))
				for _, d := range samples() {
					for _, e := range inside(d, c) {
						expect(t, api.OK, e)
					}
				}
			}
		}
	}
}

func TestP15_1Kind(t *testing.T) {
	for _, kind := range []int{0, 6, 7, -1, -2, 255, 256 + api.CText, 1<<32 + api.CElem, math.MaxInt, math.MinInt} {
		expect(t, api.ErrCoreForm, api.Core{Kind: kind})
		for _, c := range samples() {
			c.Kind = kind
			expect(t, api.ErrCoreForm, c)
			expect(t, api.ErrCoreForm, elem("p", c))
		}
	}
}

func TestP15_1Parts(t *testing.T) {
	long := strings.Repeat("é", api.MaxStr/2)
	for _, ps := range [][]api.Part{
		{plain("a")}, {plain(" ")}, {plain("\x00")}, {plain("é€😀")}, {plain(long)}, {plain(long[2:] + "ab")}, {bound(v(0))}, {bound(v(0)), bound(v(0))},
		{plain("a"), bound(v(0)), plain(long), bound(v(0)), bound(v(0)), plain("b")}, {{Plain: "a", Expr: api.Expr{Kids: []api.Expr{}}}},
	} {
		expect(t, api.OK, parts(ps...))
	}
	for _, ps := range [][]api.Part{
		{}, {plain("")}, {plain("\xff")}, {plain("a\xc3")}, {plain("\xed\xa0\x80")}, {plain("\xc0\x80")}, {plain(long + "a")}, {plain(long + "é")}, {plain(strings.Repeat("a", 4097))},
		{plain("a"), plain("b")}, {plain("a"), plain("")}, {plain(""), bound(v(0))}, {bound(v(0)), plain("")}, {bound(v(0)), plain("a"), plain("b")}, {plain("a"), plain("b"), bound(v(0))}, {plain("a"), bound(v(0)), plain("\xff")}, {bound(v(0)), bound(v(0)), plain(long + "a")},
		{{Plain: "a", Expr: v(0)}}, {{Plain: "a", Expr: num(0)}}, {{Plain: "a", Expr: api.Expr{Int: 1}}}, {{Plain: "a", Expr: api.Expr{Int: -1}}}, {{Plain: "a", Expr: str("x")}}, {{Plain: "a", Expr: api.Expr{Str: "x"}}}, {{Plain: "a", Expr: api.Expr{Kids: []api.Expr{{}}}}}, {{Expr: v(0)}}, {{}},
		{{Plain: "a", Bound: true, Expr: v(0)}}, {{Plain: " ", Bound: true, Expr: v(0)}}, {{Plain: "\xff", Bound: true, Expr: v(0)}}, {bound(v(0)), {Plain: "a", Bound: true, Expr: v(0)}}, {plain("a"), {Plain: "a", Bound: true, Expr: v(0)}},
	} {
		expect(t, api.ErrCoreForm, parts(ps...))
		expect(t, api.ErrCoreForm, when(v(0), text("a"), parts(ps...)))
	}
}

func TestP15_1Tags(t *testing.T) {
	full := "a" + strings.Repeat("-", api.MaxName-1)
	for _, s := range []string{"a", "z", "p", "h1", "x-a", "a-", "a--", "a0-9", "if", "for", full} {
		expect(t, api.OK, elem(s))
		expect(t, api.OK, fields(elem("p"), plainField(s, s)))
		expect(t, api.OK, fields(elem("p"), boundField(s, v(0))))
	}
	for _, s := range []string{"", "P", "aB", "1", "1a", "-", "-a", "_", "a_b", "a b", " a", "a ", "a\x00", "\xff", "é", "aé", "a.b", "a:b", ":a", "a\n", "`", "{", "a@", "a[", "a`", "a{", "a/", full + "-", full + "a"} {
		expect(t, api.ErrCoreForm, elem(s))
		expect(t, api.ErrCoreForm, elem("p", elem(s)))
		expect(t, api.ErrCoreForm, loop(v(0), v(0), elem(s)))
		expect(t, api.ErrCoreForm, fields(elem("p"), plainField(s, "x")))
		expect(t, api.ErrCoreForm, fields(elem("p"), boundField(s, v(0))))
		expect(t, api.ErrCoreForm, fields(elem("p"), plainField("a", ""), plainField(s, "x")))
	}
}

func TestP15_1Fields(t *testing.T) {
	long := strings.Repeat("é", api.MaxStr/2)
	for _, fs := range [][]api.Field{
		{}, {plainField("a", "")}, {plainField("a", "x")}, {plainField("a", "\x00\n")}, {plainField("a", long)}, {boundField("a", v(0))}, {boundField("a", str(long))},
		{plainField("a", "1"), plainField("b", "2")}, {plainField("a", "1"), boundField("a-", v(0)), plainField("a0", "2"), boundField("aa", v(0)), plainField("ab", "")}, {boundField("a", v(0)), boundField("b", v(0))},
		{{Name: "a", Expr: api.Expr{Kids: []api.Expr{}}}},
	} {
		expect(t, api.OK, fields(elem("p"), fs...))
		expect(t, api.OK, fields(elem("p", text("x")), fs...))
	}
	for _, fs := range [][]api.Field{
		{{}}, {plainField("a", "\xff")}, {plainField("a", "x\xc3")}, {plainField("a", long+"x")}, {plainField("a", long), plainField("b", long+"x")}, {plainField("a", long+"x"), plainField("b", long)},
		{plainField("b", ""), plainField("a", "")}, {plainField("a", ""), plainField("a", "")}, {plainField("a", ""), boundField("a", v(0))}, {boundField("a", v(0)), plainField("a", "")}, {plainField("aa", ""), plainField("a", "")}, {plainField("a0", ""), plainField("a-", "")},
		{plainField("a", ""), plainField("b", ""), plainField("b", "")}, {plainField("a", ""), plainField("c", ""), plainField("b", "")}, {plainField("a", ""), plainField("c", ""), plainField("a", "")}, {plainField("b", ""), plainField("a", ""), plainField("c", "")},
		{{Name: "a", At: 1}}, {{Name: "a", At: -1}}, {{Name: "a", Bound: true, Expr: v(0), At: 1}}, {plainField("a", ""), {Name: "b", At: 7}}, {{Name: "a", At: 7}, plainField("b", "")},
		{{Name: "a", Expr: v(0)}}, {{Name: "a", Expr: api.Expr{Int: 1}}}, {{Name: "a", Expr: api.Expr{Str: "x"}}}, {{Name: "a", Expr: api.Expr{Kids: []api.Expr{{}}}}}, {{Name: "a", Plain: "x", Expr: num(0)}},
		{{Name: "a", Plain: "x", Bound: true, Expr: v(0)}}, {{Name: "a", Plain: "\xff", Bound: true, Expr: v(0)}}, {boundField("a", v(0)), {Name: "b", Plain: "x", Bound: true, Expr: v(0)}},
	} {
		expect(t, api.ErrCoreForm, fields(elem("p"), fs...))
		expect(t, api.ErrCoreForm, fields(elem("p", text("x")), fs...))
		expect(t, api.ErrCoreForm, text("x"), loop(v(0), v(0), fields(elem("p"), fs...)))
	}
}

// TestP15_1Numbers: how many expressions and kids there are.
func TestP15_1Numbers(t *testing.T) {
	bodies := [][]api.Core{nil, {elem("p")}, {elem("p"), elem("p")}, {elem("p"), text("x")}, {text("x"), elem("p")}, {text("x")}, {hole(v(0))}, {when(v(0), elem("p"))}, {loop(v(0), v(0), elem("p"))}, {with(nil, elem("p"))}, {{}}, {{Kind: 6}}, {{Kind: -2}}}
	for n := range 5 {
		for i, body := range bodies {
			for kind, fine := range map[int]bool{api.CText: false, api.CElem: n == 0, api.CIf: n == 1, api.CFor: n == 2 && i == 1, api.CWith: true} {
				c := api.Core{Kind: kind, Exprs: nulls(n), Kids: body}
				if kind == api.CElem {
					c.Tag = "p"
				}
				want := api.ErrCoreForm
				if fine && i < 10 {
					want = api.OK
				}
				expect(t, want, c)
				expect(t, want, elem("q", c))
			}
		}
	}
}

// TestP15_1Zero: a field that the Kind does not have, and that is not zero, in each set of them.
func TestP15_1Zero(t *testing.T) {
	needs := map[int]int{api.CText: 4, api.CElem: 1, api.CIf: 8, api.CFor: 8 + 16, api.CWith: 0}
	may := map[int]int{api.CText: 4, api.CElem: 1 + 2 + 16, api.CIf: 8 + 16 + 32, api.CFor: 8 + 16, api.CWith: 8 + 16}
	for kind := -1; kind < 8; kind++ {
		for set := range 64 {
			c := api.Core{Kind: kind, Fields: []api.Field{}, Parts: []api.Part{}, Exprs: []api.Expr{}, Kids: list(), Else: list()}
			if set&1 > 0 {
				c.Tag = "p"
			}
			if set&2 > 0 {
				c.Fields = []api.Field{plainField("a", "x")}
			}
			if set&4 > 0 {
				c.Parts = []api.Part{plain("x")}
			}
			if set&8 > 0 {
				c.Exprs = nulls(1 + one(kind == api.CFor))
			}
			if set&16 > 0 {
				c.Kids = list(elem("b"))
			}
			if set&32 > 0 {
				c.Else = list(elem("b"))
			}
			want := api.ErrCoreForm
			if may, ok := may[kind]; ok && set&may == set && set&needs[kind] == needs[kind] {
				want = api.OK
			}
			expect(t, want, c)
			expect(t, want, with(nulls(1), text("x"), c))
		}
	}
}

// homes are cores with an expression in each place where one may stand; it is of a for's key alone that two values more lie on the stack.
func homes(e api.Expr) map[string]api.Core {
	return map[string]api.Core{
		"part": hole(e), "later part": parts(plain("a"), bound(v(0)), bound(e), plain("b")), "field": fields(elem("p"), boundField("a", e)), "later field": fields(elem("p", text("x")), plainField("a", ""), boundField("b", v(0)), boundField("c", e)),
		"test": when(e, text("x")), "test with else": otherwise(when(e), text("x")), "list": loop(e, v(2), elem("p")), "key": loop(v(0), e, elem("p", text("x"))),
		"with": with([]api.Expr{e}), "later with": with([]api.Expr{v(0), e, num(1)}, text("x")),
		"kid": elem("p", text("x"), hole(e)), "else": otherwise(when(v(0), text("x")), elem("p", hole(e))), "behind": elem("q", with(nulls(5)), loop(v(0), v(0), elem("p")), hole(e)),
	}
}

func expectHomes(t *testing.T, want api.Errno, e api.Expr) {
	t.Helper()
	for place, c := range homes(e) {
		if got := expectAsked(t, list(c)); got != want {
			t.Errorf("%s: %s: %d was asked for, not %d", place, cut(fmt.Sprint(e)), got, want)
		}
	}
}

// filled is an Op with as many kids as it has, and what else it needs.
func filled(number int, kids ...api.Expr) api.Expr {
	e := op(number, kids[:askedKids[number-1]]...)
	switch number {
	case api.EField:
		e.Str = "a"
	case api.ECall:
		e.Int = api.CallStr
	}
	return e
}

// TestP15_1Ops: each Op, with each number of kids, each Int and each Str.
func TestP15_1Ops(t *testing.T) {
	long := strings.Repeat("x", api.MaxStr+1)
	met := map[api.Errno]int{}
	for number := -1; number < 34; number++ {
		for n := range 5 {
			for _, i := range []int{0, 1, -1, 2, 8, 9, math.MaxInt, math.MinInt} {
				for _, s := range []string{"", "a", "null", "a_1", "A", "a-b", "\n", "\t", "\xff", long[:32], long[:33], long[:4096], long} {
					e := api.Expr{Op: number, Int: i, Str: s, Kids: nulls(n)}
					met[expectAsked(t, list(hole(e)))]++
					met[expectAsked(t, list(when(op(api.EIf, v(0), e, v(0)))))]++
				}
			}
		}
	}
	if met[api.OK] < 100 || met[api.ErrCoreExpr] < 1000 || met[api.ErrCoreName] < 10 || len(met) != 3 {
		t.Errorf("%v", met)
	}
	for outer := api.ENull; outer <= api.EIf; outer++ {
		expectHomes(t, api.OK, filled(outer, v(0), num(1), str("\x00")))
		for inner := api.ENull; inner <= api.EIf; inner++ {
			kid := filled(inner, v(0), v(0), v(0))
			expectHomes(t, api.OK, filled(outer, kid, kid, kid))
		}
	}
}

func TestP15_1Exprs(t *testing.T) {
	full := strings.Repeat("é", api.MaxStr/2)
	for _, e := range []api.Expr{
		v(0), num(0), num(math.MaxInt), str(""), str("\x00\t\r'\\}"), str(full), {Op: api.EVar, Kids: []api.Expr{}},
		part(v(0), "a"), part(v(0), "null"), part(v(0), "true"), part(v(0), strings.Repeat("a", api.MaxName)), part(part(str("x"), "len"), "a_1"), call(api.CallLen, v(0)), call(api.CallU32, v(0)),
	} {
		expectHomes(t, api.OK, e)
		expectHomes(t, api.OK, op(api.EAdd, v(0), op(api.ENot, e)))
	}
	for _, e := range []api.Expr{
		{}, {Op: -1}, {Op: 32}, {Op: 256 + api.ENull}, {Op: 1<<32 + api.EVar}, {Op: api.EVar, Str: "a"}, {Op: api.EVar, Str: "\xff"}, {Op: api.EVar, Kids: nulls(1)}, {Op: api.ENull, Int: 1}, {Op: api.ETrue, Str: "a"}, {Op: api.EFalse, Kids: nulls(1)},
		num(-1), num(math.MinInt), {Op: api.EInt, Str: "1"}, {Op: api.EInt, Kids: nulls(1)}, str("\xff"), str("a\xc3"), str(full + "a"), {Op: api.EStr, Int: 1, Str: "a"}, {Op: api.EStr, Kids: nulls(1)},
		part(v(0), ""), part(v(0), "A"), part(v(0), "a-b"), part(v(0), "1"), part(v(0), strings.Repeat("a", api.MaxName+1)), {Op: api.EField, Str: "a"}, {Op: api.EField, Str: "a", Int: 1, Kids: nulls(1)}, {Op: api.EField, Str: "a", Kids: nulls(2)},
		call(0, v(0)), call(9, v(0)), call(-1, v(0)), {Op: api.ECall, Int: 1}, {Op: api.ECall, Int: 1, Str: "len", Kids: nulls(1)}, op(api.ENeg), op(api.ENeg, nulls(2)...), op(api.EAdd, nulls(1)...), op(api.EAdd, nulls(3)...), op(api.EIndex, nulls(1)...), op(api.EIf, nulls(2)...), op(api.EIf, nulls(4)...),
		{Op: api.ENot, Int: 1, Kids: nulls(1)}, {Op: api.EAny, Str: "x", Kids: nulls(2)}, {Op: api.EIf, Int: -1, Kids: nulls(3)},
	} {
		expectHomes(t, api.ErrCoreExpr, e)
		expectHomes(t, api.ErrCoreExpr, op(api.EAdd, v(0), op(api.ENot, e)))
		expectHomes(t, api.ErrCoreExpr, op(api.EIf, e, v(7), v(0)))
	}
}

// TestP15_1Row: of the faults of one node the first in the document's row, whatever others it has.
func TestP15_1Row(t *testing.T) {
	row := []api.Errno{api.ErrCoreLarge, api.ErrCoreDeep, api.ErrCoreForm, api.ErrCoreExpr, api.ErrCoreName, api.OK}
	for _, kind := range []int{api.CText, api.CElem, api.CIf, api.CFor, api.CWith} {
		for set := range 32 {
			c := samples()[slices.IndexFunc(samples(), func(c api.Core) bool { return c.Kind == kind })]
			has := func(k int) bool { return set>>k&1 > 0 }
			if !addFault(&c, has) {
				continue
			}
			first := 5
			for k := 4; k >= 0; k-- {
				if has(k) {
					first = k
				}
			}
			cs := list(c)
			if has(1) {
				cs = wrapDeep(c)
			}
			if has(0) {
				// With the node itself there are too many, without what is in it.
				with := pieceSum(cs) - pieceSum(c.Kids) - pieceSum(c.Else)
				cs = append(slices.Repeat(list(elem("p")), api.MaxCore+1-with), cs...)
			}
			expect(t, row[first], cs...)
		}
	}
}

// addFault gives a node the faults of the row but the first two, where its Kind can have them.
func addFault(c *api.Core, has func(int) bool) bool {
	if has(1) && c.Kind != api.CElem && c.Kind != api.CFor && c.Kind != api.CWith {
		return false
	}
	if c.Kind == api.CWith {
		c.Exprs = nulls(1)
	}
	var es []api.Expr
	if has(4) {
		es = append(es, v(90))
	}
	if has(3) {
		es = append(es, api.Expr{})
	}
	for i, e := range es {
		switch c.Kind {
		case api.CText:
			c.Parts = append(c.Parts, bound(e))
		case api.CElem:
			c.Fields = append(c.Fields, boundField("x"+string(rune('a'+i)), e))
		case api.CFor:
			c.Exprs[i] = e
		case api.CWith:
			c.Exprs = append(c.Exprs, e)
		case api.CIf:
			c.Exprs[0] = op(api.EAdd, es[0], es[len(es)-1])
		}
	}
	if has(2) {
		if c.Kind == api.CIf {
			c.Tag = "p"
		} else {
			c.Else = list(text("x"))
		}
	}
	return true
}

// wrapDeep lays a node where it lies just too deep.
func wrapDeep(c api.Core) []api.Core {
	switch c.Kind {
	case api.CElem:
		return list(nested(63, c))
	case api.CFor:
		return list(looped(8, c))
	}
	return list(with(nulls(64-len(c.Exprs)), c))
}

func pieceSum(cs []api.Core) int {
	n := 0
	for _, one := range laid(cs) {
		n += askedPieces(one.Core)
	}
	return n
}

// nested is a core in so many elements.
func nested(n int, c api.Core) api.Core {
	for range n {
		c = elem("p", c)
	}
	return c
}

// looped is a core in so many fors, each with its element.
func looped(n int, c api.Core) api.Core {
	for range n {
		c = loop(v(0), v(0), elem("p", c))
	}
	return c
}

// TestP15_1First: of the faults of several nodes that of the first in preorder.
func TestP15_1First(t *testing.T) {
	faults := map[api.Errno]api.Core{api.ErrCoreForm: {}, api.ErrCoreExpr: hole(api.Expr{}), api.ErrCoreName: hole(v(50)), api.ErrCoreDeep: with(nulls(64)), api.ErrCoreLarge: with(nulls(4096))}
	for code, first := range faults {
		for _, second := range faults {
			expect(t, code, first, second)
			expect(t, code, elem("p", text("x"), first), second)
			expect(t, code, elem("p", elem("q", first), second))
			expect(t, code, otherwise(when(v(0), first), second))
			expect(t, code, otherwise(when(v(0), elem("p", first)), second), second)
			expect(t, code, otherwise(when(v(0), text("x")), elem("p"), first), second)
			expect(t, code, loop(v(0), v(0), elem("p", first, second)), second)
			expect(t, code, with(nil, first), second)
			// A node's own fault is told ahead of those in it.
			inner := list(first)
			expect(t, api.ErrCoreForm, elem("P", inner...))
			expect(t, api.ErrCoreForm, api.Core{Kind: api.CFor, Kids: inner})
			expect(t, api.ErrCoreForm, api.Core{Kind: api.CText, Parts: []api.Part{plain("x")}, Kids: inner})
			expect(t, api.ErrCoreForm, api.Core{Kind: api.CWith, Else: inner})
			expect(t, api.ErrCoreExpr, when(api.Expr{}, inner...))
			expect(t, api.ErrCoreName, with([]api.Expr{v(1)}, inner...))
			expect(t, api.ErrCoreDeep, with(nulls(64), inner...))
		}
	}
}

func TestP15_2Rows(t *testing.T) {
	for i, row := range []struct {
		cs           []api.Core
		count, loops int
	}{
		{nil, 0, 0}, {list(), 0, 0}, {list(text("a")), 1, 0}, {list(text("a"), text("b")), 2, 0}, {list(elem("p", text("a"), elem("q"))), 3, 0},
		{list(otherwise(when(v(0), text("a"), text("b")), elem("p", text("c")))), 5, 0}, {list(with(nulls(3), with(nil))), 2, 0},
		{list(loop(v(0), v(0), elem("p"))), 2, 1}, {list(loop(v(0), v(0), elem("p")), loop(v(0), v(0), elem("p"))), 4, 1},
		{list(loop(v(0), v(0), elem("p", loop(v(0), v(0), elem("p")), text("x"))), loop(v(0), v(0), elem("p"))), 7, 2},
		{list(otherwise(when(v(0), looped(2, text("x"))), looped(3, text("x")), looped(1, text("x")))), 1 + 5 + 7 + 3, 3},
		{list(with(nulls(1), looped(1, when(v(0), looped(1, with(nil)))))), 1 + 2 + 1 + 2 + 1, 2},
		{list(looped(8, text("x"))), 17, 8},
		// Of those that may not be none.
		{list(api.Core{}), 0, 0}, {list(text("a"), api.Core{}), 0, 0}, {list(loop(v(0), v(0), elem("p")), text("")), 0, 0}, {list(looped(9, text("x"))), 0, 0}, {list(elem("p", elem("q", hole(v(1))))), 0, 0}, {list(elem("p"), hole(api.Expr{})), 0, 0},
	} {
		if n, l := Count(row.cs), Loops(row.cs); n != row.count || l != row.loops {
			t.Errorf("row %d: %d and %d, want %d and %d", i, n, l, row.count, row.loops)
		}
		expectAsked(t, row.cs)
	}
}

func TestP15_3Rows(t *testing.T) {
	a := fields(elem("a"), plainField("x", ""), plainField("y", "z"))
	b := fields(elem("b"), plainField("x", ""), boundField("y", num(1)))
	for i, row := range []struct {
		cs   []api.Core
		want []int
	}{
		{nil, nil}, {list(text("x")), nil}, {list(hole(v(0))), nil}, {list(elem("p")), []int{0}}, {list(a), []int{0}}, {list(b), nil},
		{list(elem("p", text("x"), text("y"))), []int{0}}, {list(elem("p", hole(v(0)))), nil}, {list(elem("p", hole(num(1)))), nil}, {list(elem("p", parts(plain("x"), bound(v(0))))), nil},
		{list(elem("p", a)), []int{0}}, {list(elem("p", b)), nil}, {list(elem("p", a, b)), []int{1}}, {list(elem("p", b, a)), []int{2}}, {list(elem("p", a, elem("q", a), b, a)), []int{1, 2, 5}},
		{list(elem("p", elem("q", elem("r", text("x"), hole(v(0)))))), nil}, {list(elem("p", elem("q", a), elem("r", hole(v(0))), a)), []int{1, 5}},
		{list(fields(elem("p", a, elem("q", a)), boundField("x", v(0)))), []int{1, 2}},
		{list(elem("p", when(v(0)))), nil}, {list(elem("p", with(nil))), nil}, {list(elem("p", loop(v(0), v(0), elem("q")))), []int{2}}, {list(elem("p", with(nil, a, text("x"), a))), []int{2, 4}},
		{list(text("x"), a, a, text("y"), b, elem("p", a)), []int{1, 2, 5}},
		{list(otherwise(when(v(0), a, b, text("x"), a), b, elem("p", a), a)), []int{1, 4, 6, 8}}, {list(when(v(0)), a), []int{1}}, {list(otherwise(when(v(0)), a), a), []int{1, 2}},
		{list(nested(63, text("x"))), []int{0}}, {list(nested(62, b)), nil}, {list(nested(30, elem("p", b, nested(30, text("x")), b))), []int{32}},
		// Of those that may not be none.
		{list(a, api.Core{}), nil}, {list(a, elem("P")), nil}, {list(a, hole(v(1))), nil}, {list(a, nested(64, text("x"))), nil}, {list(elem("p", text(""))), nil},
	} {
		if got := Statics(row.cs); !slices.Equal(got, row.want) {
			t.Errorf("row %d: %v, want %v", i, got, row.want)
		}
		expectAsked(t, row.cs)
	}
}

// TestP14_4: what check answers may be.
func TestP14_4(t *testing.T) {
	for s, want := range map[string]struct {
		count, loops int
		statics      []int
	}{
		``: {}, `x`: {1, 0, nil}, `<p>{{ a }}</p>`: {2, 0, nil}, `<p a="1" b="2">x<b/></p>`: {3, 0, []int{0}}, `<p b="2" a="1"><b :c="1"/><i/></p>`: {3, 0, []int{2}},
		`<for each="x" :in="xs" :key="x"><li>{{ x }}</li></for>`:                                                           {3, 1, nil},
		`<for each="x" at="i" :in="xs" :key="i"><li><for each="y" :in="x" :key="y.id ~ i"><b>z</b></for></li></for>`:       {5, 2, []int{3}},
		`<if :test="a"><p/></if> <else><q/>{{ b }}</else>`:                                                                 {4, 0, []int{1, 2}},
		`<def name="x-a" props="t"><b>{{ t }}<slot :u="t"/></b></def><x-a t="1"><fill let="u">{{ u }}{{ t }}</fill></x-a>`: {5, 0, nil},
		`<def name="x-a"><b><slot/></b><i>s</i></def><x-a/><x-a>t</x-a>`:                                                   {11, 0, []int{3, 9}},
		`<def name="x-a"/>`: {},
	} {
		ns, _, code := syntax.Parse(s)
		cs, _, fault := check.Check(ns)
		if code != api.OK || fault != api.OK {
			t.Fatalf("%s: %d, %d", s, code, fault)
		}
		expect(t, api.OK, cs...)
		if n, l, st := Count(cs), Loops(cs), Statics(cs); n != want.count || l != want.loops || !slices.Equal(st, want.statics) {
			t.Errorf("%s: %d, %d, %v", s, n, l, st)
		}
	}
}
