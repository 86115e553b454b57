package eval

import (
	"bytes"
	"math"
	"math/big"
	"math/rand"
	"strconv"
	"strings"

	"stencil/api"
	"stencil/expr"
	"stencil/value"
)

var null = api.Value{Kind: api.KNull}

func truth(b bool) api.Value { return api.Value{Kind: api.KBool, Bool: b} }

func number(n int) api.Value { return api.Value{Kind: api.KInt, Int: n} }

func text(s string) api.Value { return api.Value{Kind: api.KStr, Str: s} }

func list(vs ...api.Value) api.Value { return api.Value{Kind: api.KList, List: vs} }

// rec is a record of the names, cut at each comma; "-" is a record without a name, for one name may be empty.
func rec(names string, vs ...api.Value) api.Value {
	v := api.Value{Kind: api.KRec, List: vs}
	if names != "-" {
		v.Names = strings.Split(names, ",")
	}
	return v
}

// many is a list of the numbers from 0 on.
func many(n int) api.Value {
	v := list()
	for i := range n {
		v.List = append(v.List, number(i))
	}
	return v
}

func variable(s string) api.Expr { return api.Expr{Op: api.EVar, Str: s} }

func op(number int, kids ...api.Expr) api.Expr { return api.Expr{Op: number, Kids: kids} }

func field(e api.Expr, name string) api.Expr {
	return api.Expr{Op: api.EField, Str: name, Kids: []api.Expr{e}}
}

func call(n int, e api.Expr) api.Expr {
	return api.Expr{Op: api.ECall, Int: n, Kids: []api.Expr{e}}
}

// filled is an Op with as many of the kids as it has, and with what else it asks for.
func filled(number int, kids ...api.Expr) api.Expr {
	switch number {
	case api.EInt:
		return api.Expr{Op: number, Int: 7}
	case api.EStr:
		return api.Expr{Op: number, Str: "s"}
	case api.EVar:
		return variable("v")
	case api.EField:
		return field(kids[0], "f")
	case api.ECall:
		return call(api.CallLen, kids[0])
	}
	return op(number, kids[:askedKids(number)]...)
}

func askedKids(op int) int {
	switch {
	case op <= api.EVar:
		return 0
	case op == api.EField || op == api.ECall || op == api.ENeg || op == api.ENot:
		return 1
	case op == api.EIf:
		return 3
	}
	return 2
}

// answer is what a call answers.
type answer struct {
	v    api.Value
	code api.Errno
}

func failed(code api.Errno) answer { return answer{code: code} }

func came(v api.Value) answer { return answer{v: v} }

// alike is whether all fields are the same, also those that a kind does not use.
func alike(a, b api.Value) bool {
	good := a.Kind == b.Kind && a.Bool == b.Bool && a.Int == b.Int && a.Str == b.Str && len(a.List) == len(b.List) && len(a.Names) == len(b.Names)
	for i := 0; good && i < len(a.Names); i++ {
		good = a.Names[i] == b.Names[i]
	}
	for i := 0; good && i < len(a.List); i++ {
		good = alike(a.List[i], b.List[i])
	}
	return good
}

// askedEval is what P11.1 says of e and env.
func askedEval(e api.Expr, env []api.Bind) answer {
	if _, code := expr.Print(e); code != api.OK {
		return failed(api.ErrEvalTree)
	}
	for _, b := range env {
		if value.Check(b.Value) != api.OK {
			return failed(api.ErrEvalTree)
		}
	}
	return asked(e, env)
}

// asked hands each error up by hand, and looks at kids one by one.
func asked(e api.Expr, env []api.Bind) answer {
	switch e.Op {
	case api.ENull:
		return came(null)
	case api.EFalse:
		return came(truth(false))
	case api.ETrue:
		return came(truth(true))
	case api.EInt:
		return came(number(e.Int))
	case api.EStr:
		return came(text(e.Str))
	case api.EVar:
		found := failed(api.ErrEvalName)
		for _, b := range env {
			if b.Name == e.Str {
				found = came(b.Value)
			}
		}
		return found
	case api.EBoth, api.EAny, api.EIf:
		return askedLazy(e, env)
	}
	vs := []api.Value{}
	for _, kid := range e.Kids {
		got := asked(kid, env)
		if got.code != api.OK {
			return got
		}
		vs = append(vs, got.v)
	}
	return askedOp(e, vs)
}

func askedLazy(e api.Expr, env []api.Bind) answer {
	test := asked(e.Kids[0], env)
	if test.code != api.OK {
		return test
	}
	if test.v.Kind != api.KBool {
		return failed(api.ErrEvalType)
	}
	if e.Op == api.EIf && test.v.Bool {
		return asked(e.Kids[1], env)
	}
	if e.Op == api.EIf {
		return asked(e.Kids[2], env)
	}
	if e.Op == api.EBoth && !test.v.Bool || e.Op == api.EAny && test.v.Bool {
		return test
	}
	second := asked(e.Kids[1], env)
	if second.code == api.OK && second.v.Kind != api.KBool {
		return failed(api.ErrEvalType)
	}
	return second
}

// kinds is one letter for each value: n b i t l r.
func kinds(vs []api.Value) string {
	s := ""
	for _, v := range vs {
		s += " nbitlr"[v.Kind : v.Kind+1]
	}
	return s
}

// askedOp is what comes of the values of all kids.
func askedOp(e api.Expr, vs []api.Value) answer {
	of := kinds(vs)
	switch {
	case e.Op == api.ESame:
		return came(truth(alike(vs[0], vs[1])))
	case e.Op == api.EOther:
		return came(truth(!alike(vs[0], vs[1])))
	case e.Op == api.EField && of == "r":
		return askedField(vs[0], e.Str)
	case e.Op == api.EIndex && of == "rt":
		return askedField(vs[0], vs[1].Str)
	case e.Op == api.EIndex && of == "li":
		for i, one := range vs[0].List {
			if i == vs[1].Int {
				return came(one)
			}
		}
		return failed(api.ErrEvalIndex)
	case e.Op == api.ECall:
		return askedCall(e.Int, vs[0])
	case e.Op == api.ENot && of == "b":
		return came(truth(!vs[0].Bool))
	case e.Op == api.ECat && !strings.ContainsAny(of, "lr"):
		joined := askedText(vs[0]) + askedText(vs[1])
		if len(joined) > 4096 {
			return failed(api.ErrEvalLong)
		}
		return came(text(joined))
	case e.Op >= api.ELess && of == "tt":
		return askedOrder(e.Op, bytes.Compare([]byte(vs[0].Str), []byte(vs[1].Str)))
	case e.Op >= api.ELess && of == "ii":
		return askedOrder(e.Op, big.NewInt(int64(vs[0].Int)).Cmp(big.NewInt(int64(vs[1].Int))))
	case e.Op == api.ENeg && of == "i":
		return askedNumber(e.Op, vs[0].Int, 0)
	case e.Op < api.ELess && e.Op != api.ECat && e.Op != api.EIndex && of == "ii":
		return askedNumber(e.Op, vs[0].Int, vs[1].Int)
	}
	return failed(api.ErrEvalType)
}

func askedField(v api.Value, name string) answer {
	for i, one := range v.Names {
		if one == name {
			return came(v.List[i])
		}
	}
	return failed(api.ErrEvalPath)
}

// askedText is what is written of a value that is neither a list nor a record.
func askedText(v api.Value) string {
	switch v.Kind {
	case api.KBool:
		return strconv.FormatBool(v.Bool)
	case api.KInt:
		return strconv.Itoa(v.Int)
	}
	return v.Str
}

func askedOrder(op int, c int) answer {
	switch op {
	case api.ELess:
		return came(truth(c == -1))
	case api.EMost:
		return came(truth(c != 1))
	case api.EMore:
		return came(truth(c == 1))
	}
	return came(truth(c != -1))
}

func askedCall(n int, v api.Value) answer {
	bits, least := uint(8), 0
	switch n {
	case api.CallLen:
		switch v.Kind {
		case api.KStr:
			return came(number(len([]byte(v.Str))))
		case api.KList, api.KRec:
			return came(number(len(v.List)))
		}
		return failed(api.ErrEvalType)
	case api.CallStr:
		if v.Kind == api.KList || v.Kind == api.KRec {
			return failed(api.ErrEvalType)
		}
		return came(text(askedText(v)))
	case api.CallI8:
		least = math.MinInt8
	case api.CallI16:
		bits, least = 16, math.MinInt16
	case api.CallU16:
		bits = 16
	case api.CallI32:
		bits, least = 32, math.MinInt32
	case api.CallU32:
		bits = 32
	}
	if v.Kind != api.KInt {
		return failed(api.ErrEvalType)
	}
	// The one number from least on that differs from v by a multiple of 2^bits.
	far := new(big.Int).Sub(big.NewInt(int64(v.Int)), big.NewInt(int64(least)))
	far.Mod(far, new(big.Int).Lsh(big.NewInt(1), bits))
	return came(number(int(far.Int64()) + least))
}

// askedNumber reckons without bounds, and looks at them last.
func askedNumber(op, a, b int) answer {
	x, y, z := big.NewInt(int64(a)), big.NewInt(int64(b)), new(big.Int)
	switch op {
	case api.ENeg:
		z.Neg(x)
	case api.EAdd:
		z.Add(x, y)
	case api.ESub:
		z.Sub(x, y)
	case api.EMul:
		z.Mul(x, y)
	case api.EAnd:
		z.And(x, y)
	case api.EXor:
		z.Xor(x, y)
	case api.EOr:
		z.Or(x, y)
	case api.EDiv, api.EMod:
		if b == 0 {
			return failed(api.ErrEvalZero)
		}
		if op == api.EDiv {
			z.Quo(x, y)
		} else {
			z.Rem(x, y)
		}
	case api.EShl, api.EShr:
		if b < 0 || b > 63 {
			return failed(api.ErrEvalShift)
		}
		if op == api.EShl {
			z.Lsh(x, uint(b))
		} else {
			z.Rsh(x, uint(b))
		}
	}
	if !z.IsInt64() {
		return failed(api.ErrEvalOver)
	}
	return came(number(int(z.Int64())))
}

// askedNames is what P11.2 says of e: its text, cut into words, has the names from the left.
func askedNames(e api.Expr) []string {
	s, code := expr.Print(e)
	if code != api.OK {
		return nil
	}
	names := []string{}
	for at := 0; at < len(s); {
		end := at
		for end < len(s) && (s[end] == '_' || s[end] >= 'a' && s[end] <= 'z' || s[end] >= '0' && s[end] <= '9') {
			end++
		}
		switch {
		case s[at] == '\'':
			for end = at + 1; s[end] != '\''; end++ {
				if s[end] == '\\' {
					end++
				}
			}
			end++
		case end == at:
			end++
		case s[at] >= '0' && s[at] <= '9', at > 0 && s[at-1] == '.', end < len(s) && s[end] == '(':
		case s[at:end] == "null", s[at:end] == "false", s[at:end] == "true":
		default:
			names = append(names, s[at:end])
		}
		at = end
	}
	once := []string{}
	for i, one := range names {
		first := true
		for _, earlier := range names[:i] {
			first = first && earlier != one
		}
		if first {
			once = append(once, one)
		}
	}
	return once
}

// maker makes expressions; off is how many of a hundred of their parts are of another kind than what is around them takes.
type maker struct {
	*rand.Rand
	off int
}

func (m maker) pick(those ...int) int { return those[m.Intn(len(those))] }

// leaf is an expression without kids of that kind; names begin with the letter of the kind that they are bound to, mostly.
func (m maker) leaf(kind int) api.Expr {
	switch {
	case m.Intn(3) > 0:
		return variable(" nbitlr"[kind:kind+1] + strconv.Itoa(m.Intn(4)))
	case kind == api.KBool:
		return op(m.pick(api.EFalse, api.ETrue))
	case kind == api.KInt:
		return api.Expr{Op: api.EInt, Int: m.pick(0, 1, 2, 3, 7, 63, 64, 255, math.MaxInt64, m.Int())}
	case kind == api.KStr:
		return api.Expr{Op: api.EStr, Str: []string{"", "a", "b", "é", "1", "\n'}"}[m.Intn(6)]}
	}
	return op(api.ENull)
}

// tree is an expression of that kind, mostly, with room for so many in each other.
func (m maker) tree(depth, kind int) api.Expr {
	if m.Intn(100) < m.off {
		kind = 1 + m.Intn(6)
	}
	if depth == 0 || m.Intn(8) == 0 {
		return m.leaf(kind)
	}
	switch m.Intn(6) {
	case 0:
		return op(api.EIf, m.tree(depth-1, api.KBool), m.tree(depth-1, kind), m.tree(depth-1, kind))
	case 1:
		return op(api.EIndex, m.tree(depth-1, api.KList), m.tree(depth-1, api.KInt))
	case 2:
		return field(m.tree(depth-1, api.KRec), string(" nbitlr"[kind]))
	}
	return m.made(depth-1, kind)
}

// made is an expression whose Op comes to that kind.
func (m maker) made(depth, kind int) api.Expr {
	any := 1 + m.Intn(6)
	switch kind {
	case api.KBool:
		switch m.Intn(5) {
		case 0:
			return op(m.pick(api.EBoth, api.EAny), m.tree(depth, api.KBool), m.tree(depth, api.KBool))
		case 1:
			return op(api.ENot, m.tree(depth, api.KBool))
		case 2:
			return op(m.pick(api.ESame, api.EOther), m.tree(depth, any), m.tree(depth, any))
		}
		any = m.pick(api.KInt, api.KStr)
		return op(m.pick(api.ELess, api.EMost, api.EMore, api.ELeast), m.tree(depth, any), m.tree(depth, any))
	case api.KInt:
		switch m.Intn(5) {
		case 0:
			return call(api.CallLen, m.tree(depth, m.pick(api.KStr, api.KList, api.KRec)))
		case 1:
			return call(api.CallI8+m.Intn(6), m.tree(depth, api.KInt))
		case 2:
			return op(api.ENeg, m.tree(depth, api.KInt))
		}
		return op(m.pick(api.EMul, api.EDiv, api.EMod, api.EAdd, api.ESub, api.EShl, api.EShr, api.EAnd, api.EXor, api.EOr), m.tree(depth, api.KInt), m.tree(depth, api.KInt))
	case api.KStr:
		if m.Intn(3) == 0 {
			return call(api.CallStr, m.tree(depth, 1+m.Intn(4)))
		}
		return op(api.ECat, m.tree(depth, 1+m.Intn(4)), m.tree(depth, 1+m.Intn(4)))
	}
	return m.leaf(kind)
}

// value is one of that kind, with parts in room more.
func (m maker) value(room, kind int) api.Value {
	switch kind {
	case api.KBool:
		return truth(m.Intn(2) == 0)
	case api.KInt:
		return number(m.pick(0, 1, -1, 2, 3, 5, 63, 64, -128, 255, 65536, math.MaxInt64, math.MinInt64, m.Int(), -m.Int()))
	case api.KStr:
		return text([]string{"", "a", "b", "é", "i", strings.Repeat("x", 2000), strings.Repeat("x", 4095)}[m.Intn(7)])
	case api.KList:
		v := list()
		for range m.Intn(4) * min(room, 1) {
			v.List = append(v.List, m.value(room-1, 1+m.Intn(6)))
		}
		return v
	case api.KRec:
		v := rec("-")
		for k, letter := range "nbitlr" {
			if room > 0 && m.Intn(5) > 0 {
				v.Names, v.List = append(v.Names, string(letter)), append(v.List, m.value(room-1, k+1))
			}
		}
		return v
	}
	return null
}

// env binds most of the names that leaf takes, some of them twice.
func (m maker) env() []api.Bind {
	env := []api.Bind{}
	for range 30 {
		kind := 1 + m.Intn(6)
		name := " nbitlr"[kind:kind+1] + strconv.Itoa(m.Intn(4))
		if m.Intn(100) < m.off {
			kind = 1 + m.Intn(6)
		}
		env = append(env, api.Bind{Name: name, Value: m.value(2, kind)})
	}
	return env
}
