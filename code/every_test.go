package code

import (
	"testing"

	"stencil/api"
)

// everyCode calls met with every code of that length that is made of these instructions; it is the caller's only while it is called.
func everyCode(length int, all []api.Inst, met func(code []api.Inst)) {
	code := make([]api.Inst, length)
	var fill func(at int)
	fill = func(at int) {
		if at == length {
			met(code)
			return
		}
		for _, inst := range all {
			code[at] = inst
			fill(at + 1)
		}
	}
	fill(0)
}

// expectEvery holds Check and Run of every such code against the second way, on stacks of one value of each sort.
func expectEvery(t *testing.T, length int, all []api.Inst) map[api.Errno]int {
	t.Helper()
	rows, counts := asker(table()), map[api.Errno]int{}
	texts := []string{"f"}
	everyCode(length, all, func(code []api.Inst) {
		if t.Failed() {
			return
		}
		fault := rows.expectCheck(t, code, len(texts), 1)
		counts[fault]++
		if fault != api.OK {
			expectRun(t, code, texts, []api.Value{null}, failed(fault))
			return
		}
		for _, v := range []api.Value{truth(false), truth(true), whole(3), rec("f", truth(true))} {
			counts[rows.expectRun(t, code, texts, []api.Value{v}).code]++
		}
	})
	return counts
}

// TestP20Every: every code of at most three instructions, of all that there are, and some that are none.
func TestP20Every(t *testing.T) {
	t.Parallel()
	all := insts(0, 0, 34, 0, api.INull, 1, api.ISame, -1, api.IInt, 7, api.IStr, 0, api.IStr, 1, api.IVar, 0, api.IVar, 1, api.IField, 0, api.IField, -1, api.ICall, 0, api.ICall, api.CallLen, api.ICall, api.CallU8)
	for _, op := range []int{api.INull, api.IFalse, api.ITrue, api.IIndex, api.INeg, api.INot, api.IMul, api.IDiv, api.ICat, api.IShl, api.IOr, api.ILess, api.ISame, api.IOther, api.IBool} {
		all = append(all, api.Inst{Op: op})
	}
	for _, op := range []int{api.IBoth, api.IAny, api.IElse, api.IJump} {
		for to := range 5 {
			all = append(all, api.Inst{Op: op, A: to})
		}
	}
	for length := range 4 {
		counts := expectEvery(t, length, all)
		if length == 0 && counts[api.ErrCodeStack] != 1 || length > 0 && counts[api.OK] < length*10 {
			t.Errorf("%d: %v", length, counts)
		}
		for _, code := range []api.Errno{api.ErrCodeForm, api.ErrCodeName, api.ErrCodeJump, api.ErrCodeStack} {
			if length > 0 && counts[code] == 0 {
				t.Errorf("%d: %d was never asked for", length, code)
			}
		}
	}
}

// TestP20EveryWay: every code of four and five instructions, of such as lead somewhere.
func TestP20EveryWay(t *testing.T) {
	t.Parallel()
	all := insts(api.ITrue, 0, api.IVar, 0, api.ISame, 0, api.IBool, 0)
	for _, op := range []int{api.IBoth, api.IAny, api.IElse, api.IJump} {
		for to := 2; to < 6; to++ {
			all = append(all, api.Inst{Op: op, A: to})
		}
	}
	if counts := expectEvery(t, 4, all); counts[api.OK] < 100 {
		t.Errorf("%v", counts)
	}
	few := insts(api.ITrue, 0, api.IVar, 0, api.ISame, 0, api.IBoth, 4, api.IBoth, 5, api.IAny, 3, api.IAny, 5, api.IElse, 2, api.IElse, 4, api.IElse, 5, api.IJump, 4, api.IJump, 5)
	if counts := expectEvery(t, 5, few); counts[api.OK] < 100 {
		t.Errorf("%v", counts)
	}
}

// everyExpr are all expressions of as many nodes, of these leaves and Ops.
func everyExpr(nodes int, leaves []api.Expr, ops []int) []api.Expr {
	made := [][]api.Expr{nil, leaves}
	for n := 2; n <= nodes; n++ {
		var out []api.Expr
		for _, number := range ops {
			for _, kids := range rowsOf(made, n-1, kidsOf(number)) {
				out = append(out, filled(number, kids...))
			}
		}
		made = append(made, out)
	}
	return made[nodes]
}

// rowsOf are all rows of so many expressions that have as many nodes in all, taken from those of each number of nodes.
func rowsOf(made [][]api.Expr, nodes, count int) [][]api.Expr {
	if count == 0 {
		if nodes == 0 {
			return [][]api.Expr{nil}
		}
		return nil
	}
	var out [][]api.Expr
	for n := 1; n <= nodes; n++ {
		for _, rest := range rowsOf(made, nodes-n, count-1) {
			for _, first := range made[n] {
				out = append(out, append([]api.Expr{first}, rest...))
			}
		}
	}
	return out
}

// TestP20_3Every: every expression of at most six nodes of all that choose, and of one that does not.
func TestP20_3Every(t *testing.T) {
	t.Parallel()
	leaves := []api.Expr{v(0), v(1), op(api.ETrue), num(0)}
	stacks := [][]api.Value{{truth(false), truth(true)}, {truth(true), truth(false)}, {truth(true), whole(1)}, {txt("x"), truth(false)}}
	count := 0
	for nodes := 1; nodes <= 6; nodes++ {
		for _, e := range everyExpr(nodes, leaves, []int{api.ENot, api.ESame, api.EBoth, api.EAny, api.EIf}) {
			code, texts := expectMade(t, e)
			for _, stack := range stacks {
				expectRun(t, code, texts, stack, rendered(e, stack))
			}
			count++
		}
	}
	if count < 3000 {
		t.Errorf("only %d", count)
	}
}
