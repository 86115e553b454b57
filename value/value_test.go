package value

import (
	"math"
	"math/rand"
	"reflect"
	"strconv"
	"strings"
	"sync"
	"testing"
	"time"

	"stencil/api"
	"stencil/fresh"
)

var null = api.Value{Kind: api.KNull}

func boolean(b bool) api.Value { return api.Value{Kind: api.KBool, Bool: b} }

func num(x int) api.Value { return api.Value{Kind: api.KInt, Int: x} }

func str(s string) api.Value { return api.Value{Kind: api.KStr, Str: s} }

func list(vs ...api.Value) api.Value { return api.Value{Kind: api.KList, List: vs} }

// rec is a record of the names, cut at each comma; "-" is a record without a name, for one name may be empty.
func rec(names string, vs ...api.Value) api.Value {
	v := api.Value{Kind: api.KRec, List: vs}
	if names != "-" {
		v.Names = strings.Split(names, ",")
	}
	return v
}

func kind(k int) api.Value { return api.Value{Kind: k} }

// nest is inner with shells around it, lists and records by turns from the innermost on.
func nest(shells int, inner api.Value) api.Value {
	for i := range shells {
		if i%2 == 0 {
			inner = list(inner)
		} else {
			inner = rec("a", inner)
		}
	}
	return inner
}

// many is a list of n elements, all nulls.
func many(n int) api.Value {
	v := list(make([]api.Value, n)...)
	for i := range v.List {
		v.List[i] = null
	}
	return v
}

// wide is a record of n elements with n names, all different.
func wide(n int) api.Value {
	v := many(n)
	v.Kind = api.KRec
	for i := range n {
		v.Names = append(v.Names, "n"+strconv.Itoa(i))
	}
	return v
}

// ordinary are values that may be, with their depth and count.
var ordinary = []struct {
	v            api.Value
	depth, count int
}{
	{null, 1, 1}, {boolean(false), 1, 1}, {boolean(true), 1, 1},
	{num(0), 1, 1}, {num(-1), 1, 1}, {num(math.MinInt64), 1, 1}, {num(math.MaxInt64), 1, 1},
	{str(""), 1, 1}, {str("a"), 1, 1}, {str("\x00"), 1, 1}, {str("é€😀"), 1, 1}, {str("true"), 1, 1},
	{str(strings.Repeat("a", api.MaxStr)), 1, 1}, {str(strings.Repeat("é", api.MaxStr/2)), 1, 1},
	{list(), 1, 1}, {rec("-"), 1, 1},
	{api.Value{Kind: api.KList, List: []api.Value{}, Names: []string{}}, 1, 1},
	{api.Value{Kind: api.KRec, List: []api.Value{}, Names: []string{}}, 1, 1},
	{api.Value{Kind: api.KInt, List: []api.Value{}, Names: []string{}}, 1, 1},
	{list(null), 2, 2}, {list(list()), 2, 2}, {list(null, null, num(1)), 2, 4},
	{rec("", num(1)), 2, 2}, {rec("a", rec("a", rec("a", null))), 4, 4},
	{rec("a,b,", num(1), str("b"), boolean(true)), 2, 4}, {rec("a,A,é,a ", null, null, null, null), 2, 5},
	{rec("a,b", list(num(1), num(1)), rec("a,b", num(1), num(1))), 3, 7},
	{list(null, list(null, list(null)), null), 4, 7},
	{list(list(list(null)), null), 4, 5},
	{rec(strings.Repeat("a", api.MaxStr), num(1)), 2, 2},
	{rec(strings.Repeat("a", api.MaxStr-1)+"b,"+strings.Repeat("a", api.MaxStr), num(1), num(2)), 2, 3},
	{nest(api.MaxDepth-1, null), api.MaxDepth, api.MaxDepth},
	{nest(api.MaxDepth-1, list()), api.MaxDepth, api.MaxDepth},
	{list(null, nest(api.MaxDepth-2, str("x")), null), api.MaxDepth, api.MaxDepth + 2},
	{many(api.MaxItems - 1), 2, api.MaxItems},
	{wide(api.MaxItems - 1), 2, api.MaxItems},
	{list(many(api.MaxItems/2-1), many(api.MaxItems/2-2)), 3, api.MaxItems},
}

// alone are values that may not be for something of their own, with the code of each.
var alone = []struct {
	v    api.Value
	code api.Errno
}{
	{kind(0), api.ErrValueKind}, {kind(-1), api.ErrValueKind}, {kind(7), api.ErrValueKind}, {kind(9), api.ErrValueKind},
	{kind(math.MinInt64), api.ErrValueKind}, {kind(math.MaxInt64), api.ErrValueKind}, {kind(256 + api.KInt), api.ErrValueKind}, {kind(1<<32 + api.KInt), api.ErrValueKind},
	{api.Value{Bool: true, Int: 1, Str: "\xff", List: []api.Value{kind(9)}, Names: []string{"\xff", "\xff"}}, api.ErrValueKind},
	{api.Value{Kind: 7, Str: "\xff"}, api.ErrValueKind},
	{str("\xff"), api.ErrValueForm}, {str("a\xc3"), api.ErrValueForm}, {str("\xed\xa0\x80"), api.ErrValueForm}, {str("\xc0\x80"), api.ErrValueForm},
	{str(strings.Repeat("a", api.MaxStr+1)), api.ErrValueForm},
	{str(strings.Repeat("é", api.MaxStr/2) + "a"), api.ErrValueForm},
	{str(strings.Repeat("a", api.MaxStr-1) + "\xc3"), api.ErrValueForm},
	{rec("a,a", num(1), num(2)), api.ErrValueForm}, {rec("a,a", num(1), num(1)), api.ErrValueForm}, {rec(",", null, null), api.ErrValueForm},
	{rec("a,b,a", null, null, null), api.ErrValueForm}, {rec("a,b,b", null, null, null), api.ErrValueForm},
	{rec("a", null, null), api.ErrValueForm}, {rec("a,b", null), api.ErrValueForm}, {rec("-", null), api.ErrValueForm}, {rec("a"), api.ErrValueForm}, {rec(""), api.ErrValueForm},
	{rec("\xff", null), api.ErrValueForm}, {rec("a,b\xc3", null, null), api.ErrValueForm},
	{rec(strings.Repeat("a", api.MaxStr+1), null), api.ErrValueForm},
	{rec("a,"+strings.Repeat("é", api.MaxStr/2)+"b", null, null), api.ErrValueForm},
}

// met is one value on the way through another.
type met struct {
	v     api.Value
	depth int
}

// flat lays v out in preorder; it goes below values that may not be, too.
func flat(v api.Value, depth int) []met {
	row := []met{{v, depth}}
	for _, one := range v.List {
		row = append(row, flat(one, depth+1)...)
	}
	return row
}

func askedText(s string) bool {
	return len(s) <= 4096 && strings.ToValidUTF8(s, "") == s
}

// askedForm is whether nothing but the kind and the elements of v may not be.
func askedForm(v api.Value) bool {
	bare := api.Value{Kind: v.Kind}
	switch v.Kind {
	case 2:
		bare.Bool = v.Bool
	case 3:
		bare.Int = v.Int
	case 4:
		bare.Str = v.Str
	case 5:
		bare.List = v.List
	case 6:
		bare.List, bare.Names = v.List, v.Names
	}
	good := v.Bool == bare.Bool && v.Int == bare.Int && v.Str == bare.Str && len(v.List) == len(bare.List) && len(v.Names) == len(bare.Names)
	good = good && askedText(v.Str) && (v.Kind != 6 || len(v.Names) == len(v.List))
	for i, a := range v.Names {
		good = good && askedText(a)
		for _, b := range v.Names[:i] {
			good = good && a != b
		}
	}
	return good
}

// askedCheck is what P5.1 says of v.
func askedCheck(v api.Value) api.Errno {
	for i, m := range flat(v, 1) {
		if i+1 == 16385 {
			return api.ErrValueLarge
		}
		if m.depth > 24 {
			return api.ErrValueDeep
		}
		if m.v.Kind < 1 || m.v.Kind > 6 {
			return api.ErrValueKind
		}
		if !askedForm(m.v) {
			return api.ErrValueForm
		}
	}
	return api.OK
}

// askedSame writes all that Same is to look at, each part with its length, so that two texts are one just if the values are.
func askedSame(v api.Value) string {
	out := "k" + strconv.Itoa(v.Kind)
	switch v.Kind {
	case 2:
		out += strconv.FormatBool(v.Bool)
	case 3:
		out += "i" + strconv.Itoa(v.Int)
	case 4:
		out += "s" + strconv.Itoa(len(v.Str)) + ":" + v.Str
	case 6:
		out += "n" + strconv.Itoa(len(v.Names))
		for _, name := range v.Names {
			out += ":" + strconv.Itoa(len(name)) + ":" + name
		}
		fallthrough
	case 5:
		out += "l" + strconv.Itoa(len(v.List))
		for _, one := range v.List {
			out += "(" + askedSame(one) + ")"
		}
	}
	return out
}

// maker makes values; wild is how many of a hundred of its choices make something that may not be.
type maker struct {
	r    *rand.Rand
	wild int
}

func (m maker) odd() bool { return m.r.Intn(100) < m.wild }

func (m maker) text() string {
	if m.odd() {
		return []string{"\xff", "a\xc3", strings.Repeat("x", 4097)}[m.r.Intn(3)]
	}
	return []string{"", "a", "b", "aé", strings.Repeat("x", 4096)}[m.r.Intn(5)]
}

func (m maker) value(room int) api.Value {
	v := api.Value{Kind: 1 + m.r.Intn(6)}
	if m.odd() {
		v.Kind = m.r.Intn(10) - 1
	}
	if v.Kind == 2 || m.odd() {
		v.Bool = m.r.Intn(2) == 0
	}
	if v.Kind == 3 || m.odd() {
		v.Int = m.r.Intn(3) - 1
	}
	if v.Kind == 4 || m.odd() {
		v.Str = m.text()
	}
	if room > 0 && (v.Kind >= 5 || m.odd()) {
		for range m.r.Intn(4) {
			v.List = append(v.List, m.value(room-1))
		}
	}
	if v.Kind == 6 || m.odd() {
		for i := range v.List {
			name := strconv.Itoa(i)
			if m.odd() {
				name = m.text()
			}
			v.Names = append(v.Names, name)
		}
		if m.odd() {
			v.Names = append(v.Names, m.text())
		}
	}
	return v
}

// expectOne holds Check, Depth and Count of one value against what is asked.
func expectOne(t *testing.T, name string, v api.Value, code api.Errno, depth, count int) {
	t.Helper()
	if e := Check(v); e != code {
		t.Errorf("Check of %s: %d, want %d", name, e, code)
	}
	if d, n := Depth(v), Count(v); d != depth || n != count {
		t.Errorf("Depth, Count of %s: %d, %d, want %d, %d", name, d, n, depth, count)
	}
}

func expectCode(t *testing.T, name string, v api.Value, code api.Errno) {
	t.Helper()
	expectOne(t, name, v, code, 0, 0)
}

func TestP5_1Rows(t *testing.T) {
	v := list()
	for range 29 {
		v = list(v)
	}
	expectCode(t, "Kind 9", kind(9), api.ErrValueKind)
	expectCode(t, "KInt with Str", api.Value{Kind: api.KInt, Str: "a"}, api.ErrValueForm)
	expectCode(t, "names a a", rec("a,a", num(1), num(2)), api.ErrValueForm)
	expectCode(t, "30 lists", v, api.ErrValueDeep)
}

func TestP5_1P5_3Ordinary(t *testing.T) {
	for i, c := range ordinary {
		expectOne(t, "ordinary "+strconv.Itoa(i), c.v, api.OK, c.depth, c.count)
	}
}

func TestP5_1Alone(t *testing.T) {
	for i, c := range alone {
		name := "alone " + strconv.Itoa(i)
		expectCode(t, name, c.v, c.code)
		expectCode(t, name+" in a list", list(null, c.v), c.code)
		expectCode(t, name+" in a record", rec("a,b", c.v, null), c.code)
		expectCode(t, name+" at the greatest depth", nest(api.MaxDepth-1, c.v), c.code)
		expectCode(t, name+" below it", nest(api.MaxDepth, c.v), api.ErrValueDeep)
		last := many(api.MaxItems)
		last.List[api.MaxItems-2] = c.v
		expectCode(t, name+" as number MaxItems", last, c.code)
		last.List[api.MaxItems-2], last.List[api.MaxItems-1] = null, c.v
		expectCode(t, name+" as number MaxItems + 1", last, api.ErrValueLarge)
	}
}

// TestP5_1Unused sets one field at a time, of each kind.
func TestP5_1Unused(t *testing.T) {
	sets := []func(v *api.Value){
		func(v *api.Value) { v.Bool = true },
		func(v *api.Value) { v.Int = -1 },
		func(v *api.Value) { v.Int = math.MinInt64 },
		func(v *api.Value) { v.Str = "a" },
		func(v *api.Value) { v.Str = "\x00" },
		func(v *api.Value) { v.List = []api.Value{null} },
		func(v *api.Value) { v.List = []api.Value{kind(9)} },
		func(v *api.Value) { v.Names = []string{"a"} },
		func(v *api.Value) { v.Names = []string{""} },
		func(v *api.Value) { v.List, v.Names = []api.Value{null}, []string{"a"} },
	}
	ok, wrong, deep := api.OK, api.ErrValueForm, api.ErrValueKind
	want := [6][10]api.Errno{
		{wrong, wrong, wrong, wrong, wrong, wrong, wrong, wrong, wrong, wrong},
		{ok, wrong, wrong, wrong, wrong, wrong, wrong, wrong, wrong, wrong},
		{wrong, ok, ok, wrong, wrong, wrong, wrong, wrong, wrong, wrong},
		{wrong, wrong, wrong, ok, ok, wrong, wrong, wrong, wrong, wrong},
		{wrong, wrong, wrong, wrong, wrong, ok, deep, wrong, wrong, wrong},
		{wrong, wrong, wrong, wrong, wrong, wrong, wrong, wrong, wrong, ok},
	}
	for k := api.KNull; k <= api.KRec; k++ {
		for i, set := range sets {
			v := kind(k)
			set(&v)
			if e := Check(v); e != want[k-1][i] {
				t.Errorf("kind %d, field %d: %d, want %d", k, i, e, want[k-1][i])
			}
		}
	}
}

func TestP5_1Limits(t *testing.T) {
	for _, inner := range []api.Value{null, str("a"), list(), rec("-")} {
		expectCode(t, "depth MaxDepth + 1", nest(api.MaxDepth, inner), api.ErrValueDeep)
		expectCode(t, "depth MaxDepth + 1, last", list(null, null, nest(api.MaxDepth-1, inner)), api.ErrValueDeep)
		expectCode(t, "depth MaxDepth + 1, first", rec("a,b", nest(api.MaxDepth-1, inner), null), api.ErrValueDeep)
	}
	expectCode(t, "MaxItems + 1", many(api.MaxItems), api.ErrValueLarge)
	expectCode(t, "MaxItems + 1 in a record", wide(api.MaxItems), api.ErrValueLarge)
	expectCode(t, "MaxItems + 1 in two lists", list(many(api.MaxItems/2-1), many(api.MaxItems/2-1)), api.ErrValueLarge)
	expectCode(t, "far more", list(many(api.MaxItems-3), many(5*api.MaxItems)), api.ErrValueLarge)
}

// TestP5_1Order holds several faults in one value against each other, in each order.
func TestP5_1Order(t *testing.T) {
	wrongForm, noKind, deep, large := str("\xff"), kind(9), nest(40, null), many(2*api.MaxItems)
	faults := []api.Value{wrongForm, noKind, deep, large}
	codes := []api.Errno{api.ErrValueForm, api.ErrValueKind, api.ErrValueDeep, api.ErrValueLarge}
	for i, first := range faults {
		for _, second := range faults {
			expectCode(t, "two in a row", list(null, first, second), codes[i])
			expectCode(t, "two, the first lying deeper", list(list(first), second), codes[i])
			expectCode(t, "two, the second lying deeper", rec("a,b", first, list(second)), codes[i])
		}
	}
	for _, inner := range faults[:3] {
		expectCode(t, "a form ahead of what lies in it", api.Value{Kind: api.KList, Bool: true, List: []api.Value{inner}}, api.ErrValueForm)
		expectCode(t, "names ahead of elements", rec("a,a", inner, inner), api.ErrValueForm)
		expectCode(t, "a kind ahead of what lies in it", api.Value{List: []api.Value{inner}}, api.ErrValueKind)
		expectCode(t, "an unused list's element", api.Value{Kind: api.KStr, List: []api.Value{inner}}, api.ErrValueForm)
	}
	twice := wide(api.MaxItems)
	twice.Names[api.MaxItems-1] = "n0"
	expectCode(t, "names ahead of the number", twice, api.ErrValueForm)

	last := list(many(api.MaxItems-25), nest(api.MaxDepth-1, null))
	expectCode(t, "number MaxItems + 1 at depth MaxDepth + 1", last, api.ErrValueLarge)
	last.List[0].List = last.List[0].List[1:]
	expectCode(t, "number MaxItems at depth MaxDepth + 1", last, api.ErrValueDeep)
}

func TestP5_1P5_3Random(t *testing.T) {
	codes := map[api.Errno]int{}
	for _, wild := range []int{0, 1, 3, 10, 40} {
		m := maker{rand.New(rand.NewSource(int64(wild))), wild}
		for range 4000 {
			v := m.value(5)
			if m.r.Intn(8) == 0 {
				v = nest(18+m.r.Intn(8), v)
			}
			code, depth, count := askedCheck(v), 0, 0
			if code == api.OK {
				row := flat(v, 1)
				count = len(row)
				for _, one := range row {
					depth = max(depth, one.depth)
				}
			}
			codes[code]++
			expectOne(t, "a random value", v, code, depth, count)
		}
	}
	for _, code := range []api.Errno{api.OK, api.ErrValueKind, api.ErrValueForm, api.ErrValueDeep} {
		if codes[code] < 100 {
			t.Errorf("code %d was met %d times alone", code, codes[code])
		}
	}
}

func expectSame(t *testing.T, name string, a, b api.Value, want bool) {
	t.Helper()
	if Same(a, b) != want || Same(b, a) != want {
		t.Errorf("Same, %s: want %v", name, want)
	}
}

func TestP5_2Same(t *testing.T) {
	junk := func(v api.Value) api.Value {
		if v.Kind != api.KBool {
			v.Bool = true
		}
		if v.Kind != api.KInt {
			v.Int = 7
		}
		if v.Kind != api.KStr {
			v.Str = "\xff"
		}
		if v.Kind != api.KList && v.Kind != api.KRec {
			v.List = []api.Value{kind(9)}
		}
		if v.Kind != api.KRec {
			v.Names = []string{"junk"}
		}
		return v
	}
	asked := make([]string, len(ordinary))
	for i, a := range ordinary {
		asked[i] = askedSame(a.v)
	}
	for i, a := range ordinary {
		expectSame(t, "what is not used", a.v, junk(a.v), true)
		expectSame(t, "a copy", a.v, fresh.Value(a.v), true)
		expectSame(t, "in a list", list(a.v), list(junk(a.v)), true)
		for j, b := range ordinary {
			expectSame(t, "ordinary "+strconv.Itoa(i)+" and "+strconv.Itoa(j), a.v, b.v, asked[i] == asked[j])
		}
	}
	for k := -2; k < 10; k++ {
		for n := -2; n < 10; n++ {
			expectSame(t, "kinds alone", kind(k), kind(n), k == n)
			expectSame(t, "kinds in a list", list(kind(k)), list(kind(n)), k == n)
		}
		expectSame(t, "of no kind", junk(kind(k)), kind(k), true)
	}
}

func TestP5_2Parts(t *testing.T) {
	a := rec("a,b", num(1), list(str("x"), boolean(true)))
	for i, b := range []api.Value{
		rec("b,a", num(1), list(str("x"), boolean(true))),
		rec("a,c", num(1), list(str("x"), boolean(true))),
		rec("a", num(1), list(str("x"), boolean(true))),
		rec("a,b,c", num(1), list(str("x"), boolean(true))),
		rec("b,a", list(str("x"), boolean(true)), num(1)),
		rec("a,b", num(2), list(str("x"), boolean(true))),
		rec("a,b", num(1), list(str("y"), boolean(true))),
		rec("a,b", num(1), list(str("x"), boolean(false))),
		rec("a,b", num(1), list(boolean(true), str("x"))),
		rec("a,b", num(1), list(str("x"))),
		rec("a,b", num(1), list(str("x"), boolean(true), null)),
		rec("a,b", num(1)),
		rec("a,b", num(1), list(str("x"), boolean(true)), null),
		rec("a,b", num(1), rec("a,b", str("x"), boolean(true))),
		list(num(1), list(str("x"), boolean(true))),
		{Kind: api.KRec, Names: a.Names}, {Kind: api.KRec, List: a.List}, kind(9), {},
	} {
		expectSame(t, "unlike part "+strconv.Itoa(i), a, b, false)
	}
	expectSame(t, "null and false", null, boolean(false), false)
	expectSame(t, "0 and false", num(0), boolean(false), false)
	expectSame(t, "0 and its text", num(0), str("0"), false)
	expectSame(t, "an empty text and null", str(""), null, false)
	expectSame(t, "an empty list and an empty record", list(), rec("-"), false)
	expectSame(t, "an empty list and nil", list(), list([]api.Value{}...), true)
	expectSame(t, "no names and nil", rec("-"), api.Value{Kind: api.KRec, Names: []string{}, List: []api.Value{}}, true)
	expectSame(t, "the least and the greatest", num(math.MinInt64), num(math.MaxInt64), false)
	expectSame(t, "invalid texts", str("\xff"), str("\xff"), true)
	expectSame(t, "unlike invalid texts", str("\xff"), str("\xfe"), false)
	expectSame(t, "an invalid text and U+FFFD", str("\xff"), str("\ufffd"), false)
	expectSame(t, "two same names", rec("a,a", num(1), num(2)), rec("a,a", num(1), num(2)), true)
	expectSame(t, "two same names, turned", rec("a,a", num(1), num(2)), rec("a,a", num(2), num(1)), false)
	expectSame(t, "one of many", many(5000), list(append(many(4999).List, num(0))...), false)
	expectSame(t, "many", many(5000), many(5000), true)
}

func TestP5_3Zero(t *testing.T) {
	for i, c := range alone {
		for _, v := range []api.Value{c.v, list(c.v), list(null, list(c.v)), rec("a,b", null, c.v), nest(30, c.v)} {
			if d, n := Depth(v), Count(v); d != 0 || n != 0 {
				t.Errorf("alone %d: %d, %d", i, d, n)
			}
		}
	}
}

func expectText(t *testing.T, v api.Value, text string, code api.Errno) {
	t.Helper()
	if s, e := Text(v); s != text || e != code {
		t.Errorf("Text of kind %d: %q, %d, want %q, %d", v.Kind, s, e, text, code)
	}
}

func expectKey(t *testing.T, v api.Value, key api.Key, code api.Errno) {
	t.Helper()
	if k, e := KeyOf(v); k != key || e != code {
		t.Errorf("KeyOf of kind %d: %v, %d, want %v, %d", v.Kind, k, e, key, code)
	}
}

func TestP5_4P5_5Rows(t *testing.T) {
	expectText(t, null, "", api.OK)
	expectText(t, num(-3), "-3", api.OK)
	expectText(t, list(), "", api.ErrValueText)
	expectKey(t, str("a"), api.Key{Kind: api.KStr, Str: "a"}, api.OK)
	expectKey(t, boolean(true), api.Key{}, api.ErrValueKey)
}

// TestP5_4P5_5All asks with nothing and with everything else in the value: the kind alone tells what is looked at.
func TestP5_4P5_5All(t *testing.T) {
	for _, base := range []api.Value{{}, {Bool: true, Int: 5, Str: "\xff", List: []api.Value{kind(9), null}, Names: []string{"a", "a", "b"}}} {
		of := func(k int) api.Value {
			v := base
			v.Kind = k
			return v
		}
		expectText(t, of(api.KNull), "", api.OK)
		expectKey(t, of(api.KNull), api.Key{}, api.ErrValueKey)
		for b, text := range map[bool]string{true: "true", false: "false"} {
			v := of(api.KBool)
			v.Bool = b
			expectText(t, v, text, api.OK)
			expectKey(t, v, api.Key{}, api.ErrValueKey)
		}
		for x, text := range map[int]string{0: "0", 1: "1", -3: "-3", 10: "10", math.MaxInt64: "9223372036854775807", math.MinInt64: "-9223372036854775808"} {
			v := of(api.KInt)
			v.Int = x
			expectText(t, v, text, api.OK)
			expectKey(t, v, api.Key{Kind: api.KInt, Int: x}, api.OK)
		}
		for _, s := range []string{"", "a", "é", "0", "\xff", "a\xc3", "<&>", strings.Repeat("a", api.MaxStr), strings.Repeat("b", api.MaxStr+1)} {
			v := of(api.KStr)
			v.Str = s
			expectText(t, v, s, api.OK)
			expectKey(t, v, api.Key{Kind: api.KStr, Str: s}, api.OK)
		}
		for _, k := range []int{api.KList, api.KRec, 0, -1, 7, 9, 256 + api.KInt, math.MinInt64, math.MaxInt64} {
			expectText(t, of(k), "", api.ErrValueText)
			expectKey(t, of(k), api.Key{}, api.ErrValueKey)
		}
	}
}

func expectPart(t *testing.T, name string, v api.Value, code api.Errno, want api.Value, asked api.Errno) {
	t.Helper()
	if code != asked || !alike(v, want) {
		t.Errorf("%s: %v, %d, want %v, %d", name, v, code, want, asked)
	}
}

// alike is whether all fields are the same, also those that a kind does not use.
func alike(a, b api.Value) bool {
	good := a.Kind == b.Kind && a.Bool == b.Bool && a.Int == b.Int && a.Str == b.Str && len(a.List) == len(b.List) && len(a.Names) == len(b.Names)
	for i := 0; good && i < len(a.Names); i++ {
		good = a.Names[i] == b.Names[i]
	}
	for i := 0; good && i < len(a.List); i++ {
		good = alike(a.List[i], b.List[i])
	}
	return good
}

func expectField(t *testing.T, v api.Value, name string, want api.Value, code api.Errno) {
	t.Helper()
	got, e := Field(v, name)
	expectPart(t, "Field "+strconv.Quote(name), got, e, want, code)
}

func expectIndex(t *testing.T, v api.Value, i int, want api.Value, code api.Errno) {
	t.Helper()
	got, e := Index(v, i)
	expectPart(t, "Index "+strconv.Itoa(i), got, e, want, code)
}

func TestP5_6Rows(t *testing.T) {
	expectField(t, rec("a", num(1)), "a", num(1), api.OK)
	expectField(t, rec("a", num(1)), "b", api.Value{}, api.ErrValuePath)
	expectIndex(t, list(num(1), num(2)), 1, num(2), api.OK)
	expectIndex(t, list(num(1), num(2)), 2, api.Value{}, api.ErrValuePath)
	expectIndex(t, list(num(1), num(2)), -1, api.Value{}, api.ErrValuePath)
}

func TestP5_6Field(t *testing.T) {
	inner := rec("x,y", list(num(1), str("s")), boolean(true))
	v := rec("a,,é,b", num(1), null, inner, list())
	for i, name := range v.Names {
		expectField(t, v, name, v.List[i], api.OK)
	}
	for _, name := range []string{"A", "ab", " ", "a ", "e", "\xc3", "\xff", "\x00", "x", "c", strings.Repeat("a", 5000)} {
		expectField(t, v, name, api.Value{}, api.ErrValuePath)
	}
	expectField(t, rec("-"), "", api.Value{}, api.ErrValuePath)
	expectField(t, rec("a,b,a", num(1), num(2), num(3)), "a", num(1), api.OK)
	expectField(t, rec("b,a,a", num(1), num(2), num(3)), "a", num(2), api.OK)
	expectField(t, rec("a,b", num(1)), "a", num(1), api.OK)
	expectField(t, rec("a,b", num(1)), "b", api.Value{}, api.ErrValuePath)
	expectField(t, rec("a"), "a", api.Value{}, api.ErrValuePath)
	expectField(t, rec("a", num(1), num(2)), "a", num(1), api.OK)
	expectField(t, rec("-", num(1)), "", api.Value{}, api.ErrValuePath)
	expectField(t, rec("\xff", num(1)), "\xff", num(1), api.OK)
	expectField(t, rec("\xff", num(1)), "\xfe", api.Value{}, api.ErrValuePath)
	long := strings.Repeat("n", api.MaxStr+1)
	expectField(t, rec(long, num(1)), long, num(1), api.OK)
	for _, c := range alone {
		expectField(t, rec("a,b", null, c.v), "b", c.v, api.OK)
	}
	big := wide(5000)
	big.List[4999] = inner
	expectField(t, big, "n4999", inner, api.OK)
	for _, k := range []int{0, -1, 1, 2, 3, 4, 5, 7, 9, 256 + api.KRec} {
		other := rec("a,", num(1), num(2))
		other.Kind = k
		expectField(t, other, "a", api.Value{}, api.ErrValuePath)
		expectField(t, other, "", api.Value{}, api.ErrValuePath)
	}
}

func TestP5_6Index(t *testing.T) {
	v := list(num(1), null, rec("a,b", list(str("s")), boolean(true)), list(list()), str("é"))
	for i, one := range v.List {
		expectIndex(t, v, i, one, api.OK)
	}
	for _, i := range []int{-1, 5, 6, -5, math.MinInt64, math.MaxInt64, 1 << 32, -1 << 32} {
		expectIndex(t, v, i, api.Value{}, api.ErrValuePath)
	}
	expectIndex(t, list(), 0, api.Value{}, api.ErrValuePath)
	expectIndex(t, list(), -1, api.Value{}, api.ErrValuePath)
	for _, c := range alone {
		expectIndex(t, list(null, c.v), 1, c.v, api.OK)
	}
	odd := list(num(1))
	odd.Names, odd.Str = []string{"a", "a"}, "\xff"
	expectIndex(t, odd, 0, num(1), api.OK)
	spare := list(many(10).List[:2]...)
	expectIndex(t, spare, 2, api.Value{}, api.ErrValuePath)
	for _, k := range []int{0, -1, 1, 2, 3, 4, 6, 7, 9, 256 + api.KList} {
		other := list(num(1), num(2))
		other.Kind = k
		expectIndex(t, other, 0, api.Value{}, api.ErrValuePath)
	}
}

// small is a set of values among which many are the same, of those that may be and of others.
func small() []api.Value {
	vs := []api.Value{{}, kind(9), {Kind: 9, Int: 1}}
	for _, c := range ordinary[:27] {
		vs = append(vs, c.v)
	}
	for _, c := range alone {
		vs = append(vs, c.v)
	}
	for _, wild := range []int{0, 30} {
		m := maker{rand.New(rand.NewSource(5)), wild}
		for range 60 {
			vs = append(vs, m.value(1))
		}
	}
	return vs
}

func TestP5_7Equivalence(t *testing.T) {
	vs := small()
	same := make([][]bool, len(vs))
	for i, a := range vs {
		for _, b := range vs {
			same[i] = append(same[i], Same(a, b))
			if Same(a, b) != (askedSame(a) == askedSame(b)) {
				t.Errorf("Same of %v and %v: %v", a, b, Same(a, b))
			}
		}
	}
	for i := range vs {
		if !same[i][i] {
			t.Errorf("%v is not the same as itself", vs[i])
		}
		for j := range vs {
			if same[i][j] != same[j][i] {
				t.Errorf("%v and %v: one way alone", vs[i], vs[j])
			}
			for k := range vs {
				if same[i][j] && same[j][k] && !same[i][k] {
					t.Errorf("%v, %v, %v: not handed on", vs[i], vs[j], vs[k])
				}
			}
		}
	}
}

func TestP5_7Parts(t *testing.T) {
	m := maker{rand.New(rand.NewSource(9)), 1}
	taken := 0
	for range 4000 {
		v := m.value(5)
		if Check(v) != api.OK {
			continue
		}
		taken++
		for i, part := range flat(v, 1) {
			if e := Check(part.v); e != api.OK {
				t.Errorf("part %d of a value that may be: %d", i, e)
			}
		}
	}
	if taken < 1000 {
		t.Errorf("only %d values were taken", taken)
	}
	for i, c := range ordinary {
		for j := range c.v.List {
			var part api.Value
			var e api.Errno
			if c.v.Kind == api.KList {
				part, e = Index(c.v, j)
			} else if j < 500 {
				part, e = Field(c.v, c.v.Names[j])
			} else {
				break
			}
			if e != api.OK || !alike(part, c.v.List[j]) || Check(part) != api.OK {
				t.Errorf("ordinary %d, part %d: %d", i, j, e)
			}
		}
	}
}

// TestP5_7Keys meets keys by == and in a map.
func TestP5_7Keys(t *testing.T) {
	numbers := map[api.Key]int{}
	var keys []api.Key
	var vs []api.Value
	for _, v := range small() {
		if k, e := KeyOf(v); e == api.OK {
			keys, vs = append(keys, k), append(vs, v)
		}
	}
	for _, x := range []int{0, 1, 10, -1, math.MinInt64, math.MaxInt64} {
		for _, v := range []api.Value{num(x), str(strconv.Itoa(x)), str(" " + strconv.Itoa(x))} {
			k, _ := KeyOf(v)
			keys, vs = append(keys, k), append(vs, v)
		}
	}
	for i, k := range keys {
		numbers[k] = i
	}
	for i, a := range vs {
		for j, b := range vs {
			s, _ := Text(a)
			u, _ := Text(b)
			want := s == u && a.Kind == b.Kind
			if (keys[i] == keys[j]) != want || (numbers[keys[i]] == numbers[keys[j]]) != want {
				t.Errorf("keys %v and %v: want %v", keys[i], keys[j], want)
			}
			if want != Same(a, b) {
				t.Errorf("%v and %v: Same and their keys differ", a, b)
			}
		}
	}
}

// roomy is v in memory of its own, with spare room behind each list that holds marks.
func roomy(v api.Value) api.Value {
	parts := make([]api.Value, 0, len(v.List)+3)
	for _, one := range v.List {
		parts = append(parts, roomy(one))
	}
	names := append(make([]string, 0, len(v.Names)+3), v.Names...)
	v.List, v.Names = parts, names
	for i := range 3 {
		parts[:cap(parts)][len(parts)+i] = str("mark")
		names[:cap(names)][len(names)+i] = "mark"
	}
	return v
}

// opened is v with the spare room of each of its lists as part of it.
func opened(v api.Value) api.Value {
	parts := []api.Value{}
	for _, one := range v.List[:cap(v.List)] {
		parts = append(parts, opened(one))
	}
	v.List, v.Names = parts, append([]string{}, v.Names[:cap(v.Names)]...)
	return v
}

// spoil overwrites all that v's lists hold, their spare room too.
func spoil(v api.Value) {
	for _, one := range v.List {
		spoil(one)
	}
	for i := range v.List[:cap(v.List)] {
		v.List[:cap(v.List)][i] = str("spoilt")
	}
	for i := range v.Names[:cap(v.Names)] {
		v.Names[:cap(v.Names)][i] = "spoilt"
	}
}

func samples() []api.Value {
	inner := rec("x,y", list(num(1), rec("z", null)), boolean(true))
	return []api.Value{
		null, str("a"), list(), rec("-"), list(inner, inner, list(list(num(1), num(2)))), rec("a,b,c", inner, num(1), list(inner)),
		rec("a,a", inner, inner), rec("a,b", inner), rec("a", inner, inner), {Kind: 9, List: []api.Value{inner}, Names: []string{"a"}},
		list(api.Value{Kind: 9, List: []api.Value{inner}, Names: []string{"a", "b"}}, inner), nest(30, inner), str("\xff"),
	}
}

func TestR4ArgumentsStay(t *testing.T) {
	for i, plain := range samples() {
		v, w := roomy(plain), roomy(plain)
		before := opened(v)
		Check(v)
		Same(v, w)
		Same(v, v)
		Depth(v)
		Count(v)
		Text(v)
		KeyOf(v)
		for _, name := range []string{"a", "b", "none"} {
			Field(v, name)
		}
		for at := -1; at < 4; at++ {
			Index(v, at)
		}
		if !reflect.DeepEqual(opened(v), before) || !reflect.DeepEqual(opened(w), before) {
			t.Errorf("sample %d was changed", i)
		}
	}
}

func TestR4AnswersAreNew(t *testing.T) {
	gets := []func(v api.Value) (api.Value, api.Errno){
		func(v api.Value) (api.Value, api.Errno) { return Field(v, "a") },
		func(v api.Value) (api.Value, api.Errno) { return Field(v, "b") },
		func(v api.Value) (api.Value, api.Errno) { return Index(v, 0) },
		func(v api.Value) (api.Value, api.Errno) { return Index(v, 1) },
		func(v api.Value) (api.Value, api.Errno) { return Index(v, 2) },
	}
	for i, plain := range samples() {
		for j, get := range gets {
			v := roomy(plain)
			before := opened(v)
			one, e := get(v)
			two, _ := get(v)
			if e != api.OK {
				continue
			}
			kept := fresh.Value(two)
			spoil(one)
			if !reflect.DeepEqual(opened(v), before) {
				t.Errorf("sample %d, call %d: the answer shares memory with the argument", i, j)
			}
			if !alike(two, kept) {
				t.Errorf("sample %d, call %d: two answers share memory", i, j)
			}
			spoil(v)
			if !alike(two, kept) {
				t.Errorf("sample %d, call %d: the argument is kept", i, j)
			}
		}
	}
}

// TestR4ListsOfOneAnswer hands in one list in two places: in the answer they are two.
func TestR4ListsOfOneAnswer(t *testing.T) {
	inner := rec("x", list(num(1)))
	v, e := Index(list(list(inner, inner)), 0)
	if e != api.OK {
		t.Fatal(e)
	}
	spoil(v.List[0])
	if !alike(v.List[1], inner) {
		t.Errorf("two lists of one answer share memory: %v", v.List[1])
	}
	w, _ := Field(rec("a", list(inner, list())), "a")
	_ = append(w.List[0].List, num(9))
	_ = append(w.List[0].Names, "z")
	if !alike(w, list(inner, list())) {
		t.Errorf("appending to a list changed another: %v", w)
	}
}

func TestR1Deep(t *testing.T) {
	v, w := nest(4095, str("a")), nest(4095, str("b"))
	expectCode(t, "4096 deep", v, api.ErrValueDeep)
	expectSame(t, "4096 deep", v, nest(4095, str("a")), true)
	expectSame(t, "4096 deep, unlike", v, w, false)
	expectText(t, v, "", api.ErrValueText)
	expectKey(t, v, api.Key{}, api.ErrValueKey)
	expectIndex(t, v, 0, nest(4094, str("a")), api.OK)
	expectField(t, rec("a", v), "a", v, api.OK)
	for k := range 10 {
		odd := api.Value{Kind: k, List: []api.Value{v}, Names: []string{"a"}}
		if Check(odd) == api.OK || Depth(odd) != 0 || Count(odd) != 0 {
			t.Errorf("kind %d above 4096 was taken", k)
		}
	}
}

// TestR1Size asks for times that a cost of the square of the size would break by far.
func TestR1Size(t *testing.T) {
	start := time.Now()
	const n = 200000
	big := wide(n)
	expectCode(t, "a wide record", big, api.ErrValueLarge)
	expectSame(t, "wide records", big, wide(n), true)
	expectField(t, big, "n199999", null, api.OK)
	big.Names[n-1] = "n0"
	expectCode(t, "a wide record with two same names", big, api.ErrValueForm)
	expectCode(t, "a wide list", many(n), api.ErrValueLarge)
	expectCode(t, "a long text", str(strings.Repeat("é", 1<<25)), api.ErrValueForm)
	expectCode(t, "a long name", rec(strings.Repeat("é", 1<<25), null), api.ErrValueForm)
	if spent := time.Since(start); spent > 20*time.Second {
		t.Errorf("it took %v", spent)
	}
}

func TestR5Goroutines(t *testing.T) {
	v := rec("a,b", list(num(1), str("x")), rec("c", null))
	var group sync.WaitGroup
	for range 8 {
		group.Go(func() {
			for range 200 {
				part, _ := Field(v, "a")
				if Check(v) != api.OK || Depth(v) != 3 || Count(v) != 6 || !Same(v, v) || !alike(part, v.List[0]) {
					t.Error("an answer changed")
				}
				spoil(part)
			}
		})
	}
	group.Wait()
}
