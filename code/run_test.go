package code

import (
	"math"
	"slices"
	"strings"
	"testing"

	"stencil/api"
	"stencil/eval"
	"stencil/value"
)

func told(a answer) string { return shown(a.v) + ", " + a.code.Error() }

func expectRun(t *testing.T, code []api.Inst, texts []string, stack []api.Value, want answer) {
	t.Helper()
	v, fault := Run(code, texts, stack)
	if fault != want.code || !alike(v, want.v) {
		t.Errorf("%s with %s, %s: %s, want %s", shown(code), shown(texts), shown(stack), told(answer{v, fault}), told(want))
	}
}

// expectRun holds Run against the second way, and answers what that told.
func (rows asker) expectRun(t *testing.T, code []api.Inst, texts []string, stack []api.Value) answer {
	t.Helper()
	want := rows.run(code, texts, stack)
	expectRun(t, code, texts, stack, want)
	return want
}

// edges are values of all kinds, with all edges of integers, texts, lists and records.
func edges() []api.Value {
	vs := []api.Value{null, truth(false), truth(true)}
	for _, n := range []int{0, 1, -1, 2, 7, -7, 63, 64, 127, 128, -129, 255, 65536, math.MaxInt32 + 1, 1 << 62, math.MaxInt64, math.MinInt64} {
		vs = append(vs, whole(n))
	}
	for _, s := range []string{"", "a", "b", "f", "1", "f f", "\t\x7f", "\uffff", strings.Repeat("x", api.MaxStr-1), strings.Repeat("x", api.MaxStr)} {
		vs = append(vs, txt(s))
	}
	return append(vs, row(), row(null), row(whole(1), txt("a")), row(row()), many(65), rec("-"), rec("", whole(1)), rec("f", whole(1)), rec("f,a", row(), null), rec("A,f f,f", whole(1), whole(2), rec("f", whole(4))))
}

func TestP20_2Rows(t *testing.T) {
	stack := []api.Value{rec("a", whole(2))}
	expectRun(t, insts(api.IVar, 0, api.IField, 0, api.IInt, 1, api.IAdd, 0), []string{"a"}, stack, came(whole(3)))
}

// TestP20_2Leaves: what is put on the pile without anything that lies there.
func TestP20_2Leaves(t *testing.T) {
	long := strings.Repeat("é", api.MaxStr/2)
	texts := []string{"a", "", "a", "\x00\t'\"\\", long}
	stack := []api.Value{rec("a", row(whole(1))), whole(7), null}
	expectRun(t, insts(api.INull, 0), nil, nil, came(null))
	expectRun(t, insts(api.IFalse, 0), texts, stack, came(truth(false)))
	expectRun(t, insts(api.ITrue, 0), nil, stack, came(truth(true)))
	for _, n := range []int{0, 1, -1, 5, math.MaxInt64, math.MinInt64, math.MinInt32 - 1} {
		expectRun(t, insts(api.IInt, n), texts, nil, came(whole(n)))
	}
	for i, s := range texts {
		expectRun(t, insts(api.IStr, i), texts, nil, came(txt(s)))
		expectRun(t, insts(api.IStr, i), texts[:i+1], nil, came(txt(s)))
		expectRun(t, insts(api.IStr, i), texts[:i], nil, failed(api.ErrCodeName))
	}
	for i, v := range stack {
		expectRun(t, insts(api.IVar, i), nil, stack, came(v))
		expectRun(t, insts(api.IVar, i), nil, stack[:i+1], came(v))
		expectRun(t, insts(api.IVar, i), nil, stack[:i], failed(api.ErrCodeName))
	}
	for i, v := range edges() {
		expectRun(t, insts(api.IVar, i), nil, edges(), came(v))
	}
}

// TestP20_2Pairs lays every value beside every other: the top is the second one.
func TestP20_2Pairs(t *testing.T) {
	vs := edges()
	for op := api.IIndex; op <= api.IOther; op++ {
		if table()[op].lie != 2 {
			continue
		}
		e := api.Expr{Op: op, Kids: []api.Expr{{Op: api.EVar, Str: "x"}, {Op: api.EVar, Str: "y"}}}
		met := map[api.Errno]int{}
		for _, x := range vs {
			for _, y := range vs {
				v, code := eval.Eval(e, []api.Bind{{Name: "x", Value: x}, {Name: "y", Value: y}})
				met[code]++
				expectRun(t, insts(api.IVar, 2, api.IVar, 1, op, 0), nil, []api.Value{null, y, x}, answer{v, code})
			}
		}
		if met[api.OK] == 0 || met[api.ErrEvalType] == 0 && op != api.ISame && op != api.IOther {
			t.Errorf("%d: %v", op, met)
		}
	}
	expectRun(t, insts(api.IInt, 7, api.IInt, 2, api.ISub, 0), nil, nil, came(whole(5)))
	expectRun(t, insts(api.IInt, 7, api.IInt, 2, api.IShl, 0), nil, nil, came(whole(28)))
	expectRun(t, insts(api.IVar, 0, api.IStr, 0, api.IIndex, 0), []string{"no name"}, []api.Value{rec("no name", whole(1))}, came(whole(1)))
}

// TestP20_2Ones: every operation of one value, with every A.
func TestP20_2Ones(t *testing.T) {
	rows := asker(table())
	names := []string{"f", "", "a", "f f", "A", "none", strings.Repeat("x", api.MaxStr)}
	for _, x := range edges() {
		for i, name := range names {
			got := rows.expectRun(t, insts(api.IVar, 0, api.IField, i), names, []api.Value{x})
			want, code := value.Field(x, name)
			switch {
			case x.Kind != api.KRec:
				code = api.ErrEvalType
			case code != api.OK:
				code = api.ErrEvalPath
			}
			if got.code != code || !alike(got.v, want) {
				t.Errorf("%q of %s: %s", name, shown(x), told(got))
			}
		}
		for n := api.CallLen; n <= api.CallU32; n++ {
			rows.expectRun(t, insts(api.IVar, 0, api.ICall, n), nil, []api.Value{x})
		}
		rows.expectRun(t, insts(api.IVar, 0, api.INeg, 0), nil, []api.Value{x})
		rows.expectRun(t, insts(api.IVar, 0, api.INot, 0), nil, []api.Value{x})
	}
	expectRun(t, insts(api.IInt, -300, api.ICall, api.CallU8), nil, nil, came(whole(212)))
	expectRun(t, insts(api.IInt, math.MinInt64, api.INeg, 0), nil, nil, failed(api.ErrEvalOver))
	expectRun(t, insts(api.IInt, math.MinInt64, api.ICall, api.CallStr), nil, nil, came(txt("-9223372036854775808")))
}

// TestP20_2Bools: what looks for a bool, of values of each kind; what is not taken is left.
func TestP20_2Bools(t *testing.T) {
	for _, x := range edges() {
		stack, wrong := []api.Value{x}, failed(api.ErrEvalType)
		both, either, choice, kept := wrong, wrong, wrong, wrong
		if x.Kind == api.KBool {
			kept = came(x)
			both, either, choice = came(whole(1)), came(truth(true)), came(whole(1))
			if !x.Bool {
				both, either, choice = came(truth(false)), came(whole(1)), came(whole(2))
			}
		}
		expectRun(t, insts(api.IVar, 0, api.IBool, 0), nil, stack, kept)
		expectRun(t, insts(api.IVar, 0, api.IBoth, 3, api.IInt, 1), nil, stack, both)
		expectRun(t, insts(api.IVar, 0, api.IAny, 3, api.IInt, 1), nil, stack, either)
		expectRun(t, insts(api.IVar, 0, api.IElse, 4, api.IInt, 1, api.IJump, 5, api.IInt, 2), nil, stack, choice)
		// Below it one lies that must stay where it is.
		below := insts(api.IInt, 9, api.IVar, 0)
		expectRun(t, slices.Concat(below, insts(api.IElse, 3)), nil, stack, chosen(kept, came(whole(9))))
		expectRun(t, slices.Concat(below, insts(api.IBool, 0, api.ISame, 0)), nil, stack, chosen(kept, came(truth(false))))
		expectRun(t, slices.Concat(below, insts(api.IBoth, 4, api.IInt, 8, api.IOther, 0)), nil, stack, chosen(kept, came(truth(true))))
	}
	// The second part is only looked at where an IBool says so.
	expectRun(t, insts(api.ITrue, 0, api.IBoth, 4, api.INull, 0, api.IBool, 0), nil, nil, failed(api.ErrEvalType))
	expectRun(t, insts(api.IFalse, 0, api.IBoth, 4, api.INull, 0, api.IBool, 0), nil, nil, came(truth(false)))
}

// chosen is that answer, if the other one is no fault.
func chosen(other, that answer) answer {
	if other.code != api.OK {
		return other
	}
	return that
}

// TestP20_2Jumps: what is jumped over is not done; ways that come together go on as one.
func TestP20_2Jumps(t *testing.T) {
	fault := insts(api.IInt, 1, api.IInt, 0, api.IDiv, 0)
	expectRun(t, slices.Concat(insts(api.IFalse, 0, api.IElse, 6), fault, insts(api.IJump, 7, api.IInt, 5)), nil, nil, came(whole(5)))
	expectRun(t, slices.Concat(insts(api.ITrue, 0, api.IElse, 6), fault, insts(api.IJump, 7, api.IInt, 5)), nil, nil, failed(api.ErrEvalZero))
	expectRun(t, slices.Concat(insts(api.ITrue, 0, api.IAny, 5), fault), nil, nil, came(truth(true)))
	expectRun(t, slices.Concat(insts(api.IFalse, 0, api.IAny, 5), fault), nil, nil, failed(api.ErrEvalZero))
	expectRun(t, insts(api.IJump, 1, api.IInt, 5, api.IJump, 3), nil, nil, came(whole(5)))
	for _, b := range []bool{false, true} {
		want := 20
		if b {
			want = 10
		}
		expectRun(t, insts(api.IVar, 0, api.IElse, 4, api.IInt, 1, api.IJump, 5, api.IInt, 2, api.IInt, 10, api.IMul, 0), nil, []api.Value{truth(b)}, came(whole(want)))
		expectRun(t, insts(api.IInt, 3, api.IVar, 0, api.IElse, 3, api.INeg, 0), nil, []api.Value{truth(b)}, came(whole(-3)))
	}
}

// TestP20_2Texts: whether they are named or not, ahead of all else.
func TestP20_2Texts(t *testing.T) {
	full := strings.Repeat("é", api.MaxStr/2)
	for _, bad := range []string{"\xff", "a\xc3", "\xed\xa0\x80", "\xc0\x80", full + "a", full[1:], strings.Repeat("a", api.MaxStr+1), strings.Repeat("a", api.MaxStr-1) + "\xc3"} {
		for at := range 3 {
			texts := []string{"a", full, ""}
			texts[at] = bad
			for _, code := range [][]api.Inst{nil, insts(api.INull, 0), insts(api.IStr, 0), insts(api.IStr, 2), insts(99, 0), insts(api.IStr, 3), insts(api.IJump, 0), times(api.MaxCode+1, api.INull, 0)} {
				expectRun(t, code, texts, nil, failed(api.ErrCodeForm))
				expectRun(t, code, texts, []api.Value{{}}, failed(api.ErrCodeForm))
			}
		}
	}
	expectRun(t, insts(api.IStr, 0), []string{full}, nil, came(txt(full)))
	expectRun(t, insts(api.IStr, 0), []string{strings.Repeat("\x00", api.MaxStr)}, nil, came(txt(strings.Repeat("\x00", api.MaxStr))))
	// There may be more than a program has.
	expectRun(t, insts(api.IStr, api.MaxTexts), make([]string, api.MaxTexts+1), nil, came(txt("")))
}

// TestP20_2Code: what Check does not take, ahead of the stack's values.
func TestP20_2Code(t *testing.T) {
	for _, stack := range [][]api.Value{nil, {null}, {{}}, {null, {}}} {
		for _, texts := range [][]string{nil, {"a"}} {
			for _, code := range [][]api.Inst{nil, insts(99, 0), insts(api.INull, 1), insts(api.IStr, len(texts)), insts(api.IVar, len(stack)), insts(api.IVar, -1), insts(api.IStr, -1), insts(api.IJump, 0), insts(api.IAdd, 0), insts(api.INull, 0, api.INull, 0), times(api.MaxCode+1, api.INull, 0)} {
				want := Check(code, len(texts), len(stack))
				if want == api.OK {
					t.Errorf("%v is taken", code)
				}
				expectRun(t, code, texts, stack, failed(want))
			}
		}
	}
}

// wrongValues are such as may not be, one of each sort.
func wrongValues() []api.Value {
	deep := null
	for range api.MaxDepth {
		deep = row(deep)
	}
	return []api.Value{
		{}, {Kind: -1}, {Kind: 7}, {Kind: 1<<32 + api.KInt}, {Kind: api.KNull, Int: 1}, {Kind: api.KBool, Str: "a"}, {Kind: api.KInt, Bool: true}, {Kind: api.KInt, List: []api.Value{null}}, {Kind: api.KStr, Int: 1}, {Kind: api.KList, Names: []string{"a"}},
		txt("\xff"), txt(strings.Repeat("a", api.MaxStr+1)), rec("a"), rec("a", null, null), rec("a,a", null, null), rec("\xff", null), deep, many(api.MaxItems), row(null, api.Value{}), rec("a", rec("b", txt("\xc3"))),
	}
}

// TestP20_2Values: whether the place is asked for or not, ahead of what the code meets.
func TestP20_2Values(t *testing.T) {
	for i, bad := range wrongValues() {
		if value.Check(bad) == api.OK {
			t.Errorf("value %d may be", i)
		}
		for place := range 4 {
			stack := []api.Value{truth(true), whole(1), txt("x"), null}
			stack[place] = bad
			for _, code := range [][]api.Inst{insts(api.INull, 0), insts(api.IVar, 0), insts(api.IVar, 3), insts(api.IVar, place), insts(api.INull, 0, api.INeg, 0), insts(api.ITrue, 0, api.IAny, 3, api.IVar, place)} {
				expectRun(t, code, nil, stack, failed(api.ErrEvalTree))
			}
			expectRun(t, insts(api.IVar, 4), nil, stack, failed(api.ErrCodeName))
		}
	}
}

// faulty is code that comes to nothing, for each error of chapter 11 that code can meet; it asks place 0 for faultState, and texts for faultTexts.
func faulty() map[api.Errno][]api.Inst {
	return map[api.Errno][]api.Inst{
		api.ErrEvalType: insts(api.IInt, 1, api.INot, 0), api.ErrEvalOver: insts(api.IInt, math.MaxInt64, api.IInt, 1, api.IAdd, 0), api.ErrEvalZero: insts(api.IInt, 1, api.IInt, 0, api.IMod, 0), api.ErrEvalShift: insts(api.IInt, 1, api.IInt, 64, api.IShr, 0),
		api.ErrEvalPath: insts(api.IVar, 0, api.IField, 0), api.ErrEvalIndex: insts(api.IVar, 0, api.IField, 1, api.IInt, -1, api.IIndex, 0), api.ErrEvalLong: insts(api.IStr, 2, api.IStr, 2, api.ICat, 0),
	}
}

func faultState() api.Value { return rec("l", row(whole(1), whole(2))) }

func faultTexts() []string { return []string{"none", "l", strings.Repeat("a", 3000)} }

// TestP20_2First: of two faults the one that is met first.
func TestP20_2First(t *testing.T) {
	stack, texts := []api.Value{faultState()}, faultTexts()
	for code, one := range faulty() {
		expectRun(t, one, texts, stack, failed(code))
		for _, two := range faulty() {
			expectRun(t, slices.Concat(one, two, insts(api.ISame, 0)), texts, stack, failed(code))
			expectRun(t, slices.Concat(insts(api.INull, 0), one, insts(api.IMul, 0), two, insts(api.IAdd, 0)), texts, stack, failed(code))
		}
		if code != api.ErrEvalType {
			// What it comes to would be no operand either.
			expectRun(t, slices.Concat(insts(api.INull, 0), one, insts(api.IMul, 0)), texts, stack, failed(code))
			expectRun(t, slices.Concat(insts(api.INull, 0, api.INeg, 0), one, insts(api.IMul, 0)), texts, stack, failed(api.ErrEvalType))
		}
	}
}

// TestP20_4Long: as much code as may be, with as high a pile as may be, ends.
func TestP20_4Long(t *testing.T) {
	half := api.MaxCode / 2
	expectRun(t, slices.Concat(times(half, api.IInt, 1), times(half-1, api.IAdd, 0)), nil, nil, came(whole(half)))
	expectRun(t, slices.Concat(insts(api.IInt, 5), times(api.MaxCode-1, api.INeg, 0)), nil, nil, came(whole(-5)))
	expectRun(t, slices.Concat(times(half, api.IStr, 0), times(half-1, api.ICat, 0)), []string{"x"}, nil, came(txt(strings.Repeat("x", half))))
	expectRun(t, slices.Concat(times(half, api.IStr, 0), times(half-1, api.ICat, 0)), []string{"xy"}, nil, failed(api.ErrEvalLong))
	large := []api.Value{many(api.MaxItems - 1), many(api.MaxItems - 1)}
	sames := insts(api.ITrue, 0)
	for len(sames) < api.MaxCode-3 {
		sames = append(sames, insts(api.IElse, len(sames)+1, api.IVar, 0, api.IVar, 1, api.ISame, 0)...)
	}
	expectRun(t, sames, nil, large, came(truth(true)))
}
