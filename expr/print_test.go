package expr

import (
	"fmt"
	"math"
	"math/rand"
	"reflect"
	"strings"
	"sync"
	"testing"
	"time"

	"stencil/api"
)

func TestP10_2Texts(t *testing.T) {
	for _, w := range written {
		expectPrint(t, w.e, w.text)
		expectPrint(t, call(api.CallLen, w.e), "len("+w.text+")")
		expectPrint(t, op(api.EIndex, d, w.e), "d["+w.text+"]")
		expectPrint(t, op(api.EIf, d, w.e, w.e), "d ? "+w.text+" : "+w.text)
		if want := askedPrint(w.e); want != w.text {
			t.Errorf("%q was asked for, not %q", want, w.text)
		}
	}
	expectPrint(t, api.Expr{Op: api.EVar, Str: "a", Kids: []api.Expr{}}, "a")
	expectPrint(t, op(api.EAdd, api.Expr{Op: api.ENull, Kids: []api.Expr{}}, api.Expr{Op: api.EInt, Kids: []api.Expr{}}), "null + 0")
}

// TestP10_2Parentheses holds each Op as each kid of each Op, and these as kids of each once more, against the trial of what is read.
func TestP10_2Parentheses(t *testing.T) {
	leaves := []api.Expr{a, num(1), str("x")}
	for outer := api.ENull; outer <= api.EIf; outer++ {
		expectPrint(t, filled(outer, leaves...), askedPrint(filled(outer, leaves...)))
		for inner := api.ENull; inner <= api.EIf; inner++ {
			for place := range askedKids[outer] {
				kids := append([]api.Expr{}, leaves...)
				kids[place] = filled(inner, c, d, b)
				e := filled(outer, kids...)
				expectPrint(t, e, askedPrint(e))
				for _, most := range []int{api.EField, api.ENeg, api.EMul, api.ESub, api.EBoth, api.EIf} {
					kids[place] = filled(inner, filled(most, a, b, c), filled(most, b, c, a), filled(most, c, a, b))
					e := filled(outer, kids...)
					expectPrint(t, e, askedPrint(e))
				}
			}
		}
	}
}

func TestP10_2Characters(t *testing.T) {
	for c := rune(0); c <= 0x11000; c++ {
		if c >= 0xd800 && c < 0xe000 {
			continue
		}
		e := str("a" + string(c) + "b")
		switch {
		case c < 32 && c != '\n':
			expectRefused(t, fmt.Sprintf("U+%04X", c), e)
		case c == '\n':
			expectPrint(t, e, `'a\nb'`)
		case c == '\'' || c == '\\' || c == '}':
			expectPrint(t, e, `'a\`+string(c)+`b'`)
		default:
			expectPrint(t, e, "'a"+string(c)+"b'")
		}
	}
	full := strings.Repeat("é", api.MaxStr/2)
	expectPrint(t, str(full), "'"+full+"'")
	expectPrint(t, str(strings.Repeat("\n", api.MaxStr)), "'"+strings.Repeat(`\n`, api.MaxStr)+"'")
	expectRefused(t, "a text of MaxStr + 1 bytes", str(full+"a"))
	expectRefused(t, "a text of MaxStr + 2 bytes", str(full+"é"))
}

// TestP10_2Fields lays every number of kids, every Int and every Str beside every Op, and beside some that are none.
func TestP10_2Fields(t *testing.T) {
	full := strings.Repeat("n", api.MaxName)
	ops := []int{math.MinInt64, -1, 0, 32, 33, 255, 256 + api.EInt, 1<<32 + api.EAdd, math.MaxInt64}
	for number := api.ENull; number <= api.EIf; number++ {
		ops = append(ops, number)
	}
	taken := map[int]int{}
	for _, number := range ops {
		for kids := range 6 {
			for _, n := range []int{0, 1, 2, 3, 4, 5, 6, 7, 8, 9, -1, 10, math.MaxInt64, math.MinInt64, 1<<32 + 1} {
				for _, s := range []string{"", "a", "null", "false", "true", "len", "nulls", "A", "a-b", "_", "1", "a b", "é", "\n", "\t", "\x00", "\x1f", "a\rb", "\xff", "a\xc3", "\xed\xa0\x80", "'", full, full + "n", strings.Repeat("x", api.MaxStr), strings.Repeat("x", api.MaxStr+1)} {
					e := api.Expr{Op: number, Int: n, Str: s, Kids: []api.Expr{a, b, c, a, b, c}[:kids]}
					if !askedTree(e) {
						expectRefused(t, shown(e), e)
						continue
					}
					taken[number]++
					expectPrint(t, e, askedPrint(e))
				}
			}
		}
	}
	for number := api.ENull; number <= api.EIf; number++ {
		if taken[number] == 0 {
			t.Errorf("Op %d was never taken", number)
		}
	}
}

// refused are trees that cannot be read, one of each kind.
var refused = []api.Expr{
	{}, {Op: 32}, {Op: -1}, {Op: 0, Kids: []api.Expr{a, b}}, {Op: 32, Kids: []api.Expr{a, b}},
	{Op: api.EInt, Int: -1}, {Op: api.EInt, Int: math.MinInt64}, {Op: api.EInt, Str: "a"}, {Op: api.EInt, Kids: []api.Expr{a}},
	{Op: api.EStr, Str: "\xff"}, {Op: api.EStr, Str: "\t"}, {Op: api.EStr, Str: "a\x00"}, {Op: api.EStr, Int: 1}, {Op: api.EStr, Str: strings.Repeat("a", api.MaxStr+1)},
	{Op: api.EVar}, {Op: api.EVar, Str: "null"}, {Op: api.EVar, Str: "true"}, {Op: api.EVar, Str: "false"}, {Op: api.EVar, Str: "A"}, {Op: api.EVar, Str: "a", Int: 1}, {Op: api.EVar, Str: "a", Kids: []api.Expr{b}},
	{Op: api.EField, Kids: []api.Expr{a}}, {Op: api.EField, Str: "a"}, {Op: api.EField, Str: "a", Int: 1, Kids: []api.Expr{a}}, {Op: api.EField, Str: "a b", Kids: []api.Expr{a}}, {Op: api.EField, Str: "a", Kids: []api.Expr{a, b}},
	{Op: api.ECall, Kids: []api.Expr{a}}, {Op: api.ECall, Int: 9, Kids: []api.Expr{a}}, {Op: api.ECall, Int: 1, Str: "len", Kids: []api.Expr{a}}, {Op: api.ECall, Int: 1}, {Op: api.ECall, Int: 1, Kids: []api.Expr{a, b}},
	{Op: api.ENull, Int: 1}, {Op: api.ETrue, Str: "true"}, {Op: api.EFalse, Kids: []api.Expr{a}}, {Op: api.ENeg}, {Op: api.ENot, Int: 1, Kids: []api.Expr{a}}, {Op: api.EAdd, Kids: []api.Expr{a}}, {Op: api.EAdd, Kids: []api.Expr{a, b, c}}, {Op: api.EAdd, Str: "+", Kids: []api.Expr{a, b}}, {Op: api.EIndex, Kids: []api.Expr{a}}, {Op: api.EIf, Kids: []api.Expr{a, b}}, {Op: api.EIf, Kids: []api.Expr{a, b, c, d}},
}

// TestP10_2Refused lays each tree that cannot be read anywhere into others.
func TestP10_2Refused(t *testing.T) {
	for i, bad := range refused {
		name := fmt.Sprintf("tree %d", i)
		expectRefused(t, name, bad)
		for outer := api.EField; outer <= api.EIf; outer++ {
			for place := range askedKids[outer] {
				kids := []api.Expr{a, b, c}
				kids[place] = bad
				e := filled(outer, kids...)
				expectRefused(t, name+" inside "+shown(e), e)
				expectRefused(t, name+" deep inside", op(api.ENeg, op(api.EIf, a, op(api.EAdd, num(1), e), b)))
			}
		}
	}
}

// chain is e under n signs.
func chain(n int, e api.Expr) api.Expr {
	for range n {
		e = op(api.ENot, e)
	}
	return e
}

func TestP10_2Nodes(t *testing.T) {
	left, right, choice := a, a, a
	for range api.MaxExpr/2 - 1 {
		left, right = op(api.ESub, left, b), op(api.ESub, b, right)
	}
	for range 170 {
		choice = op(api.EIf, b, choice, c)
	}
	for _, e := range []api.Expr{left, right, choice} {
		if n := nodes(e); n != api.MaxExpr-1 {
			t.Fatalf("%d nodes", n)
		}
		expectRefused(t, "one more than MaxExpr nodes", op(api.ENeg, op(api.ENot, e)))
		expectRefused(t, "two kids of many nodes", op(api.EAdd, e, e))
		for outer := api.EField; outer <= api.EIf; outer++ {
			grown := filled(outer, e, a, b)
			if askedKids[outer] > 1 {
				expectRefused(t, fmt.Sprintf("Op %d above MaxExpr nodes", outer), grown)
			} else if s, code := Print(grown); code != api.OK || !alike(askedRead(s, false).e, grown) {
				t.Errorf("Op %d with MaxExpr nodes: %d", outer, code)
			}
		}
	}
	expectPrint(t, left, "a"+strings.Repeat(" - b", api.MaxExpr/2-1))
	expectPrint(t, right, strings.Repeat("b - (", api.MaxExpr/2-2)+"b - a"+strings.Repeat(")", api.MaxExpr/2-2))
	expectPrint(t, choice, strings.Repeat("b ? ", 170)+"a"+strings.Repeat(" : c", 170))
	expectPrint(t, chain(api.MaxExpr-1, a), strings.Repeat("!", api.MaxExpr-1)+"a")
	expectRefused(t, "MaxExpr signs and a name", chain(api.MaxExpr, a))
	expectRefused(t, "a chain of 4096", chain(4095, a))
	texts := str(strings.Repeat("}", api.MaxStr))
	sum := texts
	for range api.MaxExpr/2 - 1 {
		sum = op(api.ECat, sum, texts)
	}
	if s, code := Print(sum); code != api.OK || len(s) != api.MaxExpr/2*(2*api.MaxStr+2)+(api.MaxExpr/2-1)*3 {
		t.Errorf("many long texts: %d bytes, %d", len(s), code)
	}
}

func TestP10_2Random(t *testing.T) {
	m := maker{rand.New(rand.NewSource(102))}
	for range 3000 {
		e := m.tree(4)
		expectPrint(t, e, askedPrint(e))
	}
}

// expectBack holds what P10.3 says of e against both calls, and tells whether its text can be read.
func expectBack(t *testing.T, e api.Expr) bool {
	t.Helper()
	s, code := Print(e)
	if code != api.OK {
		t.Errorf("Print of %s: %d", shown(e), code)
		return false
	}
	if free := askedRead(s, false); free.code != api.OK || !alike(free.e, e) {
		t.Errorf("%s is not read as %s", cut(s), shown(e))
	}
	want := expectAsked(t, s)
	switch want.code {
	case api.OK:
		expectTree(t, s, e)
		again, _, _ := Parse(s)
		expectPrint(t, again, s)
	case api.ErrExprForm:
		t.Errorf("%s is no form", cut(s))
	}
	return want.code == api.OK
}

func TestP10_3ThereAndBack(t *testing.T) {
	m := maker{rand.New(rand.NewSource(103))}
	for _, w := range written {
		if !expectBack(t, w.e) {
			t.Errorf("%q is not taken", w.text)
		}
	}
	for range 2000 {
		expectBack(t, m.tree(6))
	}
	for n := range 40 {
		for _, w := range ways {
			for _, inner := range []string{"a", "a + b", "a ? b : c"} {
				if e := askedRead(strings.Repeat(w.opening, n)+inner+strings.Repeat(w.closing, n), false); e.code != api.OK {
					t.Errorf("%q: %d", w.opening, e.code)
				} else {
					expectBack(t, e.e)
				}
			}
		}
	}
	// As many nodes as may be, with no more tokens than may be, and with more.
	for n, e := 1, a; n <= api.MaxExpr; n, e = n+2, op(api.EAdd, e, a) {
		if !expectBack(t, e) {
			t.Errorf("a sum of %d nodes is not taken", n)
		}
	}
	for n, e := 1, a; n <= api.MaxExpr; n, e = n+1, field(e, "b") {
		if expectBack(t, e) != (2*n-1 <= api.MaxExpr) {
			t.Errorf("%d names behind each other", n)
		}
	}
	for n, e := 1, a; n <= 100; n, e = n+1, op(api.ESub, a, e) {
		// Each level but the innermost has parentheses of its own.
		if expectBack(t, e) != (n-1 <= api.MaxExprDepth) {
			t.Errorf("%d differences in each other", n)
		}
	}
	for n := range 100 {
		if expectBack(t, chain(n, a)) != (n < api.MaxExprDepth) {
			t.Errorf("%d signs", n)
		}
	}
}

// TestP10_3OneText prints what many texts of one tree are read as.
func TestP10_3OneText(t *testing.T) {
	m := maker{rand.New(rand.NewSource(1033))}
	for range 600 {
		e := m.tree(3)
		want := askedPrint(e)
		for range 6 {
			s := m.loose(e)
			read, at, code := Parse(s)
			if code != api.OK || at != 0 {
				t.Errorf("Parse of %s: %d at %d", cut(s), code, at)
				continue
			}
			expectPrint(t, read, want)
		}
	}
}

// TestP10_3MayBe holds every answer of Parse over spoilt texts against Print: it takes what was read, and nothing beside an error.
func TestP10_3MayBe(t *testing.T) {
	m := maker{rand.New(rand.NewSource(1034))}
	for range 5000 {
		s := m.spoilt(m.loose(m.tree(3)))
		e, _, code := Parse(s)
		if _, f := Print(e); (code == api.OK) != (f == api.OK) {
			t.Errorf("Parse of %s: %d, and Print %d", cut(s), code, f)
		}
		if code == api.OK {
			expectBack(t, e)
		}
	}
}

// slots are the addresses of all that e's kids' lists hold, their spare room too, each with how often it is met.
func slots(e api.Expr, met map[*api.Expr]int) {
	for i := range e.Kids[:cap(e.Kids)] {
		met[&e.Kids[:cap(e.Kids)][i]]++
	}
	for _, kid := range e.Kids {
		slots(kid, met)
	}
}

func TestR4AnswersAreNew(t *testing.T) {
	const s = "a.b[c ? d : -1] + len(a.b[c]) * (!a && 'x' ~ str(1) == null) - a.b.c.d[1][2] + (a ? b : c)"
	met := map[*api.Expr]int{}
	for range 3 {
		e, _, _ := Parse(s)
		slots(e, met)
	}
	for _, n := range met {
		if n > 1 {
			t.Fatal("two lists share an element's place")
		}
	}
	if len(met) < 90 {
		t.Errorf("%d places were met alone", len(met))
	}
}

// TestR4AnswersStay changes one answer: neither one ahead of it nor a later one changes.
func TestR4AnswersStay(t *testing.T) {
	one, _, _ := Parse("abc.def['ghi'] + x")
	two, _, _ := Parse("abc.def['ghi'] + x")
	two.Kids[0].Kids[0].Str, two.Kids[0].Kids[1].Str = "other", "other"
	two.Kids[1] = a
	three, _, _ := Parse("abc.def['ghi'] + x")
	want := op(api.EAdd, op(api.EIndex, field(variable("abc"), "def"), str("ghi")), variable("x"))
	if !alike(one, want) || !alike(three, want) {
		t.Errorf("%v and %v", one, three)
	}
}

// roomy is e in memory of its own, with spare room behind each list that holds marks.
func roomy(e api.Expr) api.Expr {
	kids := make([]api.Expr, 0, len(e.Kids)+3)
	for _, kid := range e.Kids {
		kids = append(kids, roomy(kid))
	}
	e.Kids = kids
	for i := range 3 {
		kids[:cap(kids)][len(kids)+i] = str("mark")
	}
	return e
}

// opened is e with the spare room of each of its lists as part of it.
func opened(e api.Expr) api.Expr {
	kids := []api.Expr{}
	for _, kid := range e.Kids[:cap(e.Kids)] {
		kids = append(kids, opened(kid))
	}
	e.Kids = kids
	return e
}

func TestR4TreesStay(t *testing.T) {
	trees := append([]api.Expr{}, refused...)
	for _, w := range written {
		trees = append(trees, w.e)
	}
	for i, plain := range append(trees, chain(600, a)) {
		e := roomy(plain)
		before := opened(e)
		one, code := Print(e)
		two, again := Print(e)
		if !reflect.DeepEqual(opened(e), before) {
			t.Errorf("tree %d was changed", i)
		}
		if one != two || code != again {
			t.Errorf("tree %d: a later answer is another", i)
		}
		if s, f := Print(plain); s != one || f != code {
			t.Errorf("tree %d: spare room is told", i)
		}
	}
}

func TestR1Deep(t *testing.T) {
	for _, w := range ways {
		for _, inner := range []string{"", "a", "#", ")", "]", ":", strings.Repeat(w.closing, 20000)} {
			s := strings.Repeat(w.opening, 20000) + inner
			if want := expectAsked(t, s); want.code != api.ErrExprDeep {
				t.Errorf("%s: %d was asked for", cut(s), want.code)
			}
		}
	}
	for _, outer := range []int{api.EField, api.EIndex, api.ECall, api.ENeg, api.ENot, api.EMul, api.EAny, api.EIf} {
		first, last := a, a
		for range 4095 {
			first = filled(outer, first, b, c)
			last = filled(outer, [][]api.Expr{{last}, {last}, {b, last}, {b, c, last}}[askedKids[outer]]...)
		}
		expectRefused(t, "a tree 4096 deep by its first kid", first)
		expectRefused(t, "a tree 4096 deep by its last kid", last)
	}
	// A tree that holds one kid again and again has more nodes than could ever be counted.
	shared := a
	for range 4000 {
		shared = op(api.EIf, shared, shared, shared)
	}
	expectRefused(t, "a tree of shared kids", shared)
	wide := api.Expr{Op: api.EAdd, Kids: make([]api.Expr, 1000000)}
	expectRefused(t, "a million kids", wide)
	expectRefused(t, "a long text", str(strings.Repeat("a", 1<<24)))
	expectRefused(t, "a long name", variable(strings.Repeat("a", 1<<24)))
}

func TestR1Random(t *testing.T) {
	r := rand.New(rand.NewSource(1))
	for range 20000 {
		bytes := make([]byte, r.Intn(20))
		for i := range bytes {
			bytes[i] = byte(r.Intn(256))
		}
		expectAsked(t, string(bytes))
		expectAsked(t, "'"+string(bytes))
		expectAsked(t, "(a+"+string(bytes))
	}
	all := strings.Join(askedSigns, "") + "aln019 '\\n}_"
	for range 40000 {
		bytes := make([]byte, r.Intn(12))
		for i := range bytes {
			bytes[i] = all[r.Intn(len(all))]
		}
		expectAsked(t, string(bytes))
	}
}

// TestR1Size asks for times that a cost of the square of the size would break by far.
func TestR1Size(t *testing.T) {
	start := time.Now()
	const size = 1 << 22
	for _, s := range []string{strings.Repeat(" ", size), strings.Repeat("9", size), strings.Repeat("a", size), strings.Repeat("a ", size/2), "'" + strings.Repeat("a", size) + "'", "'" + strings.Repeat(`\n`, size/2), strings.Repeat("(", size), strings.Repeat("-", size), strings.Repeat("a+", size/2), strings.Repeat("'", size), strings.Repeat("a?", size/2), "a" + strings.Repeat(" ", size) + "+b"} {
		Parse(s)
	}
	full := strings.Repeat("a+", api.MaxExpr/2-1) + "a"
	nested := strings.Repeat("(", 31) + strings.Repeat("a+", 100) + "a" + strings.Repeat(")", 31)
	for range 3000 {
		for _, s := range []string{full, nested, strings.Repeat("-", 31) + "a", "a" + strings.Repeat(".b", 255)} {
			e, _, code := Parse(s)
			if _, f := Print(e); code != api.OK || f != api.OK {
				t.Fatalf("%s: %d, %d", cut(s), code, f)
			}
		}
	}
	if spent := time.Since(start); spent > 20*time.Second {
		t.Errorf("it took %v", spent)
	}
}

func TestR5Goroutines(t *testing.T) {
	const good, bad = "a ? b.c[0] : -(len(d) + 1)", "a ? b.c[0] : -(len(d) + 1]"
	var group sync.WaitGroup
	for range 8 {
		group.Go(func() {
			for range 200 {
				e, _, _ := Parse(good)
				if s, code := Print(e); s != good || code != api.OK {
					t.Error("an answer changed")
				}
				if e, at, code := Parse(bad); e.Op != 0 || at != len(bad)-1 || code != api.ErrExprForm {
					t.Error("a fault changed")
				}
			}
		})
	}
	group.Wait()
}
