package code

import (
	"fmt"
	"math"
	"slices"
	"strings"
	"testing"

	"stencil/api"
	"stencil/value"
)

// Values.

var null = api.Value{Kind: api.KNull}

func truth(b bool) api.Value { return api.Value{Kind: api.KBool, Bool: b} }

func whole(n int) api.Value { return api.Value{Kind: api.KInt, Int: n} }

func txt(s string) api.Value { return api.Value{Kind: api.KStr, Str: s} }

func row(vs ...api.Value) api.Value { return api.Value{Kind: api.KList, List: vs} }

// rec is a record of the names, cut at each comma; "-" is a record without a name, for one name may be empty.
func rec(names string, vs ...api.Value) api.Value {
	v := api.Value{Kind: api.KRec, List: vs}
	if names != "-" {
		v.Names = strings.Split(names, ",")
	}
	return v
}

func many(n int) api.Value {
	v := row()
	for i := range n {
		v.List = append(v.List, whole(i))
	}
	return v
}

// Code.

// insts is code of numbers: Op, A, Op, A, ..
func insts(numbers ...int) []api.Inst {
	var out []api.Inst
	for pair := range slices.Chunk(numbers, 2) {
		out = append(out, api.Inst{Op: pair[0], A: pair[1]})
	}
	return out
}

// times is an instruction so often.
func times(n, op, a int) []api.Inst {
	return slices.Repeat(insts(op, a), n)
}

// cut is a text that may be long, for a message.
func cut(s string) string {
	if len(s) > 400 {
		return s[:200] + " .. " + s[len(s)-150:]
	}
	return s
}

func shown(x any) string { return cut(fmt.Sprintf("%v", x)) }

// alike holds two answers against each other: what may not be is alike only where nothing is.
func alike(a, b api.Value) bool {
	if a.Kind == 0 || b.Kind == 0 {
		return isBare(a) && isBare(b)
	}
	return value.Same(a, b) && value.Check(a) == api.OK
}

func isBare(v api.Value) bool {
	return v.Kind == 0 && !v.Bool && v.Int == 0 && v.Str == "" && len(v.Names)+len(v.List) == 0
}

func expectCheck(t *testing.T, code []api.Inst, texts, depth int, want api.Errno) {
	t.Helper()
	if got := Check(code, texts, depth); got != want {
		t.Errorf("%s with %d, %d: %d, want %d", shown(code), texts, depth, got, want)
	}
}

// expectCheck holds Check against the second way, and answers what that told.
func (rows asker) expectCheck(t *testing.T, code []api.Inst, texts, depth int) api.Errno {
	t.Helper()
	want := rows.check(code, texts, depth)
	expectCheck(t, code, texts, depth, want)
	return want
}

// TestP20_1Rows: the chapter's own, but for the jump from 0 to 1, which its text takes.
func TestP20_1Rows(t *testing.T) {
	expectCheck(t, nil, 0, 0, api.ErrCodeStack)
	expectCheck(t, []api.Inst{}, 5, 5, api.ErrCodeStack)
	expectCheck(t, insts(api.IJump, 1, api.IInt, 5), 0, 0, api.OK)
	expectCheck(t, insts(api.IAdd, 0), 0, 0, api.ErrCodeStack)
	expectCheck(t, insts(api.IInt, 1, api.INull, 0), 0, 0, api.ErrCodeStack)
	expectCheck(t, insts(api.ITrue, 0, api.IBoth, 0), 0, 0, api.ErrCodeJump)
	expectCheck(t, insts(api.IVar, 1), 0, 1, api.ErrCodeName)
	expectCheck(t, insts(99, 0), 0, 0, api.ErrCodeForm)
}

// faultsOf are what Check may answer of an instruction by itself, beside OK.
func faultsOf(op int) []api.Errno {
	switch op {
	case api.IInt:
		return []api.Errno{api.ErrCodeStack}
	case api.IStr, api.IVar, api.IField:
		return []api.Errno{api.ErrCodeStack, api.ErrCodeName}
	case api.IBoth, api.IAny, api.IElse, api.IJump:
		return []api.Errno{api.ErrCodeStack, api.ErrCodeJump}
	}
	return []api.Errno{api.ErrCodeStack, api.ErrCodeForm}
}

// TestP20_1Instructions: each Op, with each A, on each height of the pile, with what may follow.
func TestP20_1Instructions(t *testing.T) {
	rows := asker(table())
	as := []int{0, 1, -1, 2, 3, 4, 5, 6, 7, 8, 9, 255, 256, math.MaxInt32, 1 << 32, math.MaxInt64, math.MinInt64}
	tails := [][]api.Inst{nil, insts(api.INull, 0), insts(api.ISame, 0), insts(api.INull, 0, api.ISame, 0), insts(api.ISame, 0, api.ISame, 0)}
	for op := api.INull; op <= api.IJump; op++ {
		met := map[api.Errno]int{}
		for _, a := range as {
			for height := range 5 {
				for _, tail := range tails {
					code := slices.Concat(times(height, api.INull, 0), insts(op, a), tail)
					for _, count := range []int{-1, 0, 1, 2, 8} {
						met[rows.expectCheck(t, code, count, 8)]++
						met[rows.expectCheck(t, code, 8, count)]++
					}
				}
			}
		}
		faults := faultsOf(op)
		for _, code := range append(faults, api.OK) {
			if met[code] == 0 {
				t.Errorf("%d: %d was never asked for", op, code)
			}
		}
		if len(met) != len(faults)+1 {
			t.Errorf("%d: %v", op, met)
		}
	}
	for _, op := range []int{0, -1, 34, 35, 99, 256, 256 + api.INull, 1<<32 + api.INull, -api.INull, math.MinInt64, math.MaxInt64} {
		for _, a := range as {
			expectCheck(t, insts(op, a), 8, 8, api.ErrCodeForm)
			expectCheck(t, insts(api.INull, 0, api.INull, 0, op, a), 8, 8, api.ErrCodeForm)
		}
	}
}

// TestP20_1Heights: what each instruction takes, leaves and looks at, said one by one.
func TestP20_1Heights(t *testing.T) {
	for op := api.INull; op <= api.IBool; op++ {
		a, lie := 0, 2
		switch op {
		case api.INull, api.IFalse, api.ITrue, api.IInt, api.IStr, api.IVar:
			lie = 0
		case api.IField, api.INeg, api.INot, api.IBool:
			lie = 1
		case api.ICall:
			a, lie = api.CallStr, 1
		}
		for height := range 6 {
			// Behind it, pairs are taken until one is left.
			for pairs := range 7 {
				want := api.ErrCodeStack
				if height >= lie && height-lie == pairs {
					want = api.OK
				}
				expectCheck(t, slices.Concat(times(height, api.ITrue, 0), insts(op, a), times(pairs, api.ISame, 0)), 1, 1, want)
			}
		}
	}
}

// TestP20_1Long: as many instructions as may be, and one more, whatever they are.
func TestP20_1Long(t *testing.T) {
	rows := asker(table())
	expectCheck(t, slices.Concat(insts(api.IInt, 1), times(api.MaxCode-1, api.INeg, 0)), 0, 0, api.OK)
	expectCheck(t, slices.Concat(insts(api.IInt, 1), times(api.MaxCode, api.INeg, 0)), 0, 0, api.ErrCodeLong)
	half := api.MaxCode / 2
	expectCheck(t, slices.Concat(times(half, api.INull, 0), times(half-1, api.ISame, 0), insts(api.IBool, 0)), 0, 0, api.OK)
	expectCheck(t, slices.Concat(times(half, api.INull, 0), times(half-1, api.ISame, 0)), 0, 0, api.OK)
	expectCheck(t, slices.Concat(times(half, api.INull, 0), times(half, api.ISame, 0)), 0, 0, api.ErrCodeStack)
	expectCheck(t, slices.Concat(times(half+1, api.INull, 0), times(half-1, api.ISame, 0)), 0, 0, api.ErrCodeStack)
	expectCheck(t, times(api.MaxCode, api.INull, 0), 0, 0, api.ErrCodeStack)
	expectCheck(t, times(api.MaxCode+1, api.INull, 0), 0, 0, api.ErrCodeLong)
	expectCheck(t, make([]api.Inst, api.MaxCode), 0, 0, api.ErrCodeForm)
	for _, wrong := range [][]api.Inst{insts(99, 0), insts(api.IStr, -1), insts(api.IJump, 0), insts(api.IAdd, 0)} {
		expectCheck(t, slices.Repeat(wrong, api.MaxCode+1), 0, 0, api.ErrCodeLong)
	}
	// Each jumps to the end, the last one too.
	ands := insts(api.ITrue, 0)
	for len(ands) < api.MaxCode-1 {
		ands = append(ands, insts(api.IBoth, api.MaxCode-1, api.ITrue, 0)...)
	}
	expectCheck(t, ands, 0, 0, api.OK)
	expectCheck(t, append(ands, insts(api.IBool, 0)...), 0, 0, api.OK)
	rows.expectCheck(t, append(ands, insts(api.IElse, api.MaxCode)...), 0, 0)
	rows.expectCheck(t, append(ands, insts(api.IJump, api.MaxCode)...), 0, 0)
	// Each leads to the next one alone.
	steps := insts(api.INull, 0)
	for len(steps) < api.MaxCode {
		steps = append(steps, api.Inst{Op: api.IJump, A: len(steps) + 1})
	}
	expectCheck(t, steps, 0, 0, api.OK)
	steps[api.MaxCode-1].A++
	expectCheck(t, steps, 0, 0, api.ErrCodeJump)
	steps[api.MaxCode-1].A -= 2
	expectCheck(t, steps, 0, 0, api.ErrCodeJump)
	steps[api.MaxCode-2].A++
	expectCheck(t, steps, 0, 0, api.ErrCodeStack)
}

// TestP20_1Jumps: to the own number, the next one, the end, behind it, and back.
func TestP20_1Jumps(t *testing.T) {
	none := api.ErrCodeJump
	for _, to := range []int{math.MinInt64, -1, 0, 1, 2, 6, 7, 8, 1 << 16, 1 << 32, 1<<32 + 4, math.MaxInt64} {
		for _, op := range []int{api.IBoth, api.IAny, api.IElse, api.IJump} {
			expectCheck(t, insts(api.ITrue, 0, api.ITrue, 0, op, to, api.INull, 0, api.INull, 0), 0, 0, none)
		}
	}
	// Two lie there at number 2; to 3, 4, 5 (the end) lead the jumps.
	for _, c := range []struct {
		op   int
		want [3]api.Errno
	}{
		{api.IBoth, [3]api.Errno{api.ErrCodeStack, api.OK, api.ErrCodeStack}},
		{api.IAny, [3]api.Errno{api.ErrCodeStack, api.OK, api.ErrCodeStack}},
		{api.IElse, [3]api.Errno{api.OK, api.ErrCodeStack, api.OK}},
		{api.IJump, [3]api.Errno{api.ErrCodeStack, api.ErrCodeStack, api.ErrCodeStack}},
	} {
		for i, want := range c.want {
			expectCheck(t, insts(api.ITrue, 0, api.ITrue, 0, c.op, 3+i, api.ITrue, 0, api.ISame, 0), 0, 0, want)
		}
	}
	// A jump to the end as the last instruction.
	expectCheck(t, insts(api.INull, 0, api.IJump, 2), 0, 0, api.OK)
	expectCheck(t, insts(api.INull, 0, api.ITrue, 0, api.IElse, 3), 0, 0, api.OK)
	expectCheck(t, insts(api.INull, 0, api.ITrue, 0, api.IBoth, 3), 0, 0, api.ErrCodeStack)
	expectCheck(t, insts(api.IJump, 1), 0, 0, api.ErrCodeStack)
	// An instruction that only a jump back leads to is not reached yet where it is looked at.
	expectCheck(t, insts(api.IJump, 2, api.INull, 0, api.IJump, 1), 0, 0, api.ErrCodeStack)
	expectCheck(t, insts(api.INull, 0, api.IJump, 0), 0, 0, api.ErrCodeJump)
}

// TestP20_1Ways: such as come together, with one height and with two, at an instruction and at the end.
func TestP20_1Ways(t *testing.T) {
	choice := insts(api.ITrue, 0, api.IElse, 4, api.IInt, 1, api.IJump, 5, api.IInt, 2)
	expectCheck(t, choice, 0, 0, api.OK)
	expectCheck(t, append(choice, insts(api.INeg, 0)...), 0, 0, api.OK)
	expectCheck(t, append(choice, insts(api.INeg, 0, api.INull, 0, api.ICat, 0)...), 0, 0, api.OK)
	// The next one leads to it with another height than a jump; a jump with another one than the next one did.
	expectCheck(t, insts(api.ITrue, 0, api.IElse, 3, api.INull, 0, api.INull, 0, api.ISame, 0), 0, 0, api.ErrCodeStack)
	expectCheck(t, insts(api.ITrue, 0, api.IElse, 3, api.INull, 0), 0, 0, api.ErrCodeStack)
	expectCheck(t, insts(api.ITrue, 0, api.IElse, 4, api.INull, 0, api.IJump, 6, api.INull, 0, api.INull, 0), 0, 0, api.ErrCodeStack)
	// Three ways to the end, two of them by jumps, the last one with one more.
	three := insts(api.ITrue, 0, api.IElse, 4, api.INull, 0, api.IJump, 9, api.ITrue, 0, api.IElse, 8, api.INull, 0, api.IJump, 9, api.INull, 0)
	expectCheck(t, three, 0, 0, api.OK)
	expectCheck(t, append(three, insts(api.INull, 0)...), 0, 0, api.ErrCodeStack)
	more := slices.Clone(three)
	more[6] = api.Inst{Op: api.IJump, A: 7}
	expectCheck(t, more, 0, 0, api.ErrCodeStack)
	// No way leads to what lies between a jump and where it goes.
	for _, op := range []int{api.INull, api.IJump, 0, 99, api.IStr, api.IAdd} {
		expectCheck(t, insts(api.INull, 0, api.IJump, 3, op, 0, api.IBool, 0), 0, 0, api.ErrCodeStack)
	}
	// All ways agree, but leave none or two.
	expectCheck(t, insts(api.ITrue, 0, api.IElse, 2), 0, 0, api.ErrCodeStack)
	expectCheck(t, slices.Concat(choice, insts(api.INull, 0)), 0, 0, api.ErrCodeStack)
}

// TestP20_1Names: so many texts and values as there are, none, and fewer.
func TestP20_1Names(t *testing.T) {
	for _, a := range []int{0, 1, 5, 4095, 1 << 40, math.MaxInt64, -1, math.MinInt64} {
		for _, count := range []int{0, 1, 2, 5, 6, 4095, 4096, 1<<40 + 1, math.MaxInt64, -1, -2, math.MinInt64} {
			want := api.ErrCodeName
			if a >= 0 && count > a {
				want = api.OK
			}
			expectCheck(t, insts(api.IVar, a), 0, count, want)
			expectCheck(t, insts(api.IVar, a), -3, count, want)
			expectCheck(t, insts(api.IStr, a), count, 0, want)
			expectCheck(t, insts(api.INull, 0, api.IField, a), count, -3, want)
			expectCheck(t, insts(api.IInt, a), count, count, api.OK)
		}
	}
}

// TestP20_1First: where several are wrong at once, the first one as the row has it.
func TestP20_1First(t *testing.T) {
	for _, c := range []struct {
		code []api.Inst
		want api.Errno
	}{
		// Of one instruction, on an empty pile.
		{insts(api.INeg, 1), api.ErrCodeForm}, {insts(api.IBool, -1), api.ErrCodeForm}, {insts(api.ICall, 0), api.ErrCodeForm}, {insts(api.ICall, 9), api.ErrCodeForm}, {insts(0, 7), api.ErrCodeForm}, {insts(34, 0), api.ErrCodeForm},
		{insts(api.IField, -1), api.ErrCodeName}, {insts(api.IField, 0), api.ErrCodeName},
		{insts(api.IBoth, 0), api.ErrCodeJump}, {insts(api.IAny, 2), api.ErrCodeJump}, {insts(api.IElse, -1), api.ErrCodeJump}, {insts(api.IBoth, 1), api.ErrCodeStack}, {insts(api.IElse, 1), api.ErrCodeStack},
		// Of two, the first one's.
		{insts(api.IAdd, 0, 99, 0), api.ErrCodeStack}, {insts(api.IVar, 0, 99, 0), api.ErrCodeName}, {insts(api.IJump, 0, api.IVar, 0), api.ErrCodeJump}, {insts(99, 0, api.IAdd, 0), api.ErrCodeForm},
		{insts(api.IJump, 2, 99, 0), api.ErrCodeStack}, {insts(api.IJump, 3, 99, 0), api.ErrCodeJump},
		// The end is asked last.
		{insts(api.INull, 0, api.INull, 0, 99, 0), api.ErrCodeForm}, {insts(api.INull, 0, api.INull, 0, api.IStr, 0), api.ErrCodeName}, {insts(api.INull, 0, api.INull, 0, api.IJump, 9), api.ErrCodeJump},
		// Another height is met at the instruction that leads there, ahead of what that place holds.
		{insts(api.ITrue, 0, api.IBoth, 2, 99, 0), api.ErrCodeStack}, {insts(api.ITrue, 0, api.IElse, 3, api.INull, 0, 99, 0), api.ErrCodeStack}, {insts(api.ITrue, 0, api.IElse, 3, 99, 0, api.INull, 0), api.ErrCodeForm},
	} {
		expectCheck(t, c.code, 0, 0, c.want)
		if got := asker(table()).check(c.code, 0, 0); got != c.want {
			t.Errorf("%v: %d was asked for, not %d", c.code, got, c.want)
		}
	}
}
