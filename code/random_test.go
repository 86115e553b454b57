package code

import (
	"math"
	"math/rand"
	"slices"
	"strings"
	"testing"

	"stencil/api"
	"stencil/value"
)

// maker makes values, expressions and code that fit one another, but for off in a hundred of their parts.
type maker struct {
	*rand.Rand
	off int
}

func newMaker(seed int64) *maker {
	return &maker{Rand: rand.New(rand.NewSource(seed)), off: 2}
}

func (m *maker) chance(n int) bool { return m.Intn(n) == 0 }

func (m *maker) pick(those ...int) int { return those[m.Intn(len(those))] }

func (m *maker) word(those ...string) string { return those[m.Intn(len(those))] }

func (m *maker) isOff() bool { return m.Intn(100) < m.off }

// letters names the fields of a record by the kinds that they have: n null, b bool, i integer, t text, l list, r record.
const letters = " nbitlr"

// value is one of that kind, mostly; records have a field of each kind, while there is room.
func (m *maker) value(room, kind int) api.Value {
	if m.isOff() {
		kind = 1 + m.Intn(6)
	}
	switch kind {
	case api.KBool:
		return truth(m.chance(2))
	case api.KInt:
		return whole(m.pick(0, 1, -1, 2, 3, 5, 63, 64, 255, math.MaxInt64, math.MinInt64, m.Int()))
	case api.KStr:
		return txt(m.word("", "a", "b", "é", "\t", "r", "l", strings.Repeat("x", 2000), strings.Repeat("x", 4095)))
	case api.KList:
		v := row()
		for range m.Intn(4) * min(room, 1) {
			v.List = append(v.List, m.value(room-1, 1+m.Intn(6)))
		}
		return v
	case api.KRec:
		v := rec("-")
		for kind := api.KNull; kind <= api.KRec && room > 0; kind++ {
			if !m.isOff() {
				v.Names, v.List = append(v.Names, letters[kind:kind+1]), append(v.List, m.value(room-1, kind))
			}
		}
		return v
	}
	return null
}

// stack is so many values, with their kinds.
func (m *maker) stack(n int) ([]api.Value, []int) {
	var vs []api.Value
	var kinds []int
	for range n {
		vs = append(vs, m.value(3, 1+m.Intn(6)))
		kinds = append(kinds, vs[len(vs)-1].Kind)
	}
	return vs, kinds
}

// leaf is an expression without operations of that kind, with these kinds on the stack.
func (m *maker) leaf(kind int, stack []int) api.Expr {
	var those []api.Expr
	for place, other := range stack {
		if other == kind {
			those = append(those, v(place), v(place))
		}
		if other == api.KRec {
			those = append(those, part(v(place), letters[kind:kind+1]))
		}
	}
	if m.isOff() && len(stack) > 0 {
		return v(m.Intn(len(stack)))
	}
	if len(those) > 0 && (kind > api.KStr || !m.chance(4)) {
		return those[m.Intn(len(those))]
	}
	switch kind {
	case api.KBool:
		return op(m.pick(api.EFalse, api.ETrue))
	case api.KInt:
		return num(m.pick(0, 1, 2, 3, 7, 64, math.MaxInt64))
	case api.KStr:
		return str(m.word("", "a", "\t", "é'"))
	}
	return op(api.ENull)
}

// expr is an expression of that kind, mostly, with so many in each other.
func (m *maker) expr(deep, kind int, stack []int) api.Expr {
	if m.isOff() {
		kind = 1 + m.Intn(6)
	}
	if deep == 0 || m.chance(4) {
		return m.leaf(kind, stack)
	}
	deep--
	two := func(op1, kind1, kind2 int) api.Expr {
		return op(op1, m.expr(deep, kind1, stack), m.expr(deep, kind2, stack))
	}
	if m.chance(5) {
		return op(api.EIf, m.expr(deep, api.KBool, stack), m.expr(deep, kind, stack), m.expr(deep, kind, stack))
	}
	any := 1 + m.Intn(6)
	switch kind {
	case api.KBool:
		switch m.Intn(6) {
		case 0, 1:
			return two(m.pick(api.EBoth, api.EAny), kind, kind)
		case 2:
			return op(api.ENot, m.expr(deep, kind, stack))
		case 3:
			return two(m.pick(api.ESame, api.EOther), any, any)
		}
		any = m.pick(api.KInt, api.KStr)
		return two(m.pick(api.ELess, api.EMost, api.EMore, api.ELeast), any, any)
	case api.KInt:
		switch m.Intn(6) {
		case 0:
			return call(api.CallLen, m.expr(deep, m.pick(api.KStr, api.KList, api.KRec), stack))
		case 1:
			return call(api.CallI8+m.Intn(6), m.expr(deep, kind, stack))
		case 2:
			return op(api.ENeg, m.expr(deep, kind, stack))
		}
		return two(m.pick(api.EMul, api.EDiv, api.EMod, api.EAdd, api.ESub, api.EShl, api.EShr, api.EAnd, api.EXor, api.EOr), kind, kind)
	case api.KStr:
		if m.chance(4) {
			return call(api.CallStr, m.expr(deep, 1+m.Intn(4), stack))
		}
		return two(api.ECat, 1+m.Intn(4), 1+m.Intn(4))
	}
	if m.chance(4) {
		return op(api.EIndex, m.expr(deep, api.KList, stack), num(m.Intn(2)))
	}
	return m.leaf(kind, stack)
}

// TestP20_3Random: what Make makes of an expression runs as it.
func TestP20_3Random(t *testing.T) {
	m, met := newMaker(200), map[api.Errno]int{}
	for range 3000 {
		stack, kinds := m.stack(m.Intn(7))
		for range 8 {
			e := m.expr(5, 1+m.Intn(6), kinds)
			if !mayBe(e) {
				continue
			}
			got := expectRuns(t, e, stack)
			met[got.code]++
		}
	}
	for code := api.ErrEvalType; code <= api.ErrEvalLong; code++ {
		if met[code] < 5 {
			t.Errorf("%d was asked for %d times", code, met[code])
		}
	}
	if met[api.OK] < 5000 || met[api.ErrEvalName]+met[api.ErrEvalTree] > 0 {
		t.Errorf("%v", met)
	}
}

// piece is code that puts one value on the pile, of forms that Make does not make, too; it begins at that number.
func (m *maker) piece(at, deep, kind, texts int, stack []int) []api.Inst {
	if deep == 0 || m.chance(5) {
		return m.single(kind, texts, stack)
	}
	deep--
	var code []api.Inst
	put := func(more ...api.Inst) { code = append(code, more...) }
	value := func(kind int) { put(m.piece(at+len(code), deep, kind, texts, stack)...) }
	jump := func(op int) func() {
		number := len(code)
		put(api.Inst{Op: op})
		return func() { code[number].A = at + len(code) }
	}
	switch m.Intn(11) {
	case 0: // A jump to the next one.
		jump(api.IJump)()
		value(kind)
	case 1: // A bool that is taken away.
		value(api.KBool)
		jump(api.IElse)()
		value(kind)
	case 2: // A bool above the value that is taken away.
		value(kind)
		value(api.KBool)
		jump(api.IElse)()
	case 3: // Some that lead to one end.
		op := m.pick(api.IBoth, api.IAny)
		var lands []func()
		for range 1 + m.Intn(3) {
			value(api.KBool)
			lands = append(lands, jump(op))
		}
		value(kind)
		for _, land := range lands {
			land()
		}
	case 4, 5: // A row of choices, whose ends come together.
		var lands []func()
		for range 1 + m.Intn(3) {
			value(api.KBool)
			otherwise := jump(api.IElse)
			value(kind)
			lands = append(lands, jump(api.IJump))
			otherwise()
		}
		value(kind)
		for _, land := range lands {
			land()
		}
	case 6:
		value(api.KBool)
		put(api.Inst{Op: api.IBool})
		if m.chance(2) {
			put(api.Inst{Op: api.INot})
		}
	case 7:
		value(api.KRec)
		put(api.Inst{Op: api.IField, A: m.Intn(texts)})
	case 8:
		value(api.KInt)
		put(insts(m.pick(api.INeg, api.ICall), 0)...)
		if last := &code[len(code)-1]; last.Op == api.ICall {
			last.A = 1 + m.Intn(8)
		}
	case 9:
		value(m.pick(api.KStr, api.KList, api.KList))
		value(m.pick(api.KStr, api.KInt, api.KInt))
		put(insts(m.pick(api.IIndex, api.ICat), 0)...)
	default:
		two := m.pick(api.KInt, api.KInt, api.KStr, kind)
		value(two)
		value(two)
		put(insts(api.IMul+m.Intn(api.IOther-api.IMul+1), 0)...)
	}
	return code
}

// single is an instruction that puts a value of that kind on the pile, if there is one.
func (m *maker) single(kind, texts int, stack []int) []api.Inst {
	if place := slices.Index(stack, kind); place >= 0 && (kind > api.KStr || m.chance(2)) {
		return insts(api.IVar, place)
	}
	switch kind {
	case api.KBool:
		return insts(m.pick(api.IFalse, api.ITrue), 0)
	case api.KInt:
		return insts(api.IInt, m.pick(0, 1, -1, 2, 7, 63, 64, -300, math.MaxInt64, math.MinInt64))
	case api.KStr:
		return insts(api.IStr, m.pick(m.Intn(texts), texts-1))
	}
	return insts(api.INull, 0)
}

// bent is code of which one thing is another one.
func (m *maker) bent(code []api.Inst) []api.Inst {
	code = slices.Clone(code)
	at := m.Intn(len(code))
	switch m.Intn(5) {
	case 0:
		code[at].Op = m.pick(0, 1+m.Intn(33), 1+m.Intn(33), 34)
	case 1:
		code[at].A += m.pick(1, -1, 2, -at, 1<<40)
	case 2:
		code = slices.Delete(code, at, at+1)
	case 3:
		code = slices.Insert(code, at, code[m.Intn(len(code))])
	case 4:
		code[at], code[len(code)-1-at] = code[len(code)-1-at], code[at]
	}
	return code
}

// TestP20_4Random: what Check takes Run ends, with a value that may be or an error that code can meet; all of it as it was said a second time.
func TestP20_4Random(t *testing.T) {
	m, rows := newMaker(204), asker(table())
	checked, ran := map[api.Errno]int{}, map[api.Errno]int{}
	texts := []string{"a", "", "l", "r", "n", "i", "b", strings.Repeat("x", 2100)}
	for range 6000 {
		stack, kinds := m.stack(m.Intn(6))
		code := m.piece(0, 4, 1+m.Intn(6), len(texts), kinds)
		expectCheck(t, code, len(texts), len(stack), api.OK)
		for range 4 {
			if fault := rows.expectCheck(t, code, len(texts), len(stack)); fault == api.OK {
				got := rows.expectRun(t, code, texts, stack)
				ran[got.code]++
				if got.code == api.OK && value.Check(got.v) != api.OK || got.code != api.OK && (got.code < api.ErrEvalType || got.code > api.ErrEvalLong) {
					t.Errorf("%s: %s", shown(code), told(got))
				}
			} else {
				checked[fault]++
				expectRun(t, code, texts, stack, failed(fault))
			}
			code = m.bent(code)
			if len(code) == 0 {
				break
			}
		}
	}
	for fault := api.ErrCodeForm; fault < api.ErrCodeLong; fault++ {
		if checked[fault] < 100 {
			t.Errorf("%d was asked for %d times", fault, checked[fault])
		}
	}
	for fault := api.ErrEvalType; fault <= api.ErrEvalLong; fault++ {
		if ran[fault] < 5 {
			t.Errorf("%d was met %d times", fault, ran[fault])
		}
	}
	if ran[api.OK] < 1000 {
		t.Errorf("%v", ran)
	}
}
