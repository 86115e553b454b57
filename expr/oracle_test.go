package expr

import (
	"math"
	"math/big"
	"math/rand"
	"regexp"
	"strings"
	"unicode/utf8"

	"stencil/api"
)

// What the document asks for, said a second time: tokens by regular expressions, the grammar by a stack of what is open, parentheses by trial.

var (
	askedNumber = regexp.MustCompile(`^(0|[1-9][0-9]*)`)
	askedName   = regexp.MustCompile(`^[a-z][a-z0-9_]*`)
	askedBody   = regexp.MustCompile(`^([^'\\\x00-\x1f]|\\['\\}n])*`)
	askedPlain  = strings.NewReplacer(`\'`, `'`, `\\`, `\`, `\}`, `}`, `\n`, "\n")
	askedQuoted = strings.NewReplacer(`'`, `\'`, `\`, `\\`, `}`, `\}`, "\n", `\n`)

	askedSigns  = strings.Fields("? : || && == != < <= > >= | ^ & << >> ~ + - * / % ! . [ ] ( )")
	askedLevels = []string{"||", "&&", "== !=", "< <= > >=", "|", "^", "&", "<< >>", "~", "+ -", "* / %"}
	askedOps    = []int{api.EAny, api.EBoth, api.ESame, api.EOther, api.ELess, api.EMost, api.EMore, api.ELeast, api.EOr, api.EXor, api.EAnd, api.EShl, api.EShr, api.ECat, api.EAdd, api.ESub, api.EMul, api.EDiv, api.EMod}
	askedCalls  = strings.Fields("len str i8 u8 i16 u16 i32 u32")
	askedWords  = strings.Fields("null false true")
)

func indexOf(row []string, s string) int {
	for i, one := range row {
		if one == s {
			return i
		}
	}
	return -1
}

// askedTwo is the level and the Op of a sign between two operands.
func askedTwo(sign string) (level, op int, ok bool) {
	n := 0
	for level, row := range askedLevels {
		for _, one := range strings.Fields(row) {
			if one == sign {
				return level, askedOps[n], true
			}
			n++
		}
	}
	return 0, 0, false
}

func askedSign(op int) string {
	for _, sign := range askedSigns {
		if _, two, ok := askedTwo(sign); ok && two == op {
			return sign
		}
	}
	return ""
}

// askedToken is a token; s is how it is written or, of a text, what it stands for.
type askedToken struct {
	kind   string
	s      string
	at     int
	behind int
}

// askedNext is the token from at on; bad is the place where there is none, or -1.
func askedNext(s string, at int) (token askedToken, bad int) {
	for at < len(s) && strings.ContainsRune(" \t\n\r", rune(s[at])) {
		at++
	}
	rest := s[at:]
	made := func(kind, written string) (askedToken, int) {
		return askedToken{kind, written, at, at + len(written)}, -1
	}
	switch {
	case rest == "":
		return made("end", "")
	case rest[0] == '\'':
		return askedText(s, at)
	case askedNumber.MatchString(rest):
		written := askedNumber.FindString(rest)
		if n, _ := new(big.Int).SetString(written, 10); n.Cmp(big.NewInt(math.MaxInt64)) > 0 {
			return askedToken{}, at
		}
		return made("number", written)
	case askedName.MatchString(rest):
		written := askedName.FindString(rest)
		if len(written) > api.MaxName {
			return askedToken{}, at
		}
		return made("name", written)
	}
	longest := ""
	for _, sign := range askedSigns {
		if strings.HasPrefix(rest, sign) && len(sign) > len(longest) {
			longest = sign
		}
	}
	if longest == "" {
		return askedToken{}, at
	}
	return made("sign", longest)
}

func askedText(s string, at int) (askedToken, int) {
	valid := s[at+1:]
	for i, c := range valid {
		if _, size := utf8.DecodeRuneInString(valid[i:]); c == utf8.RuneError && size == 1 {
			valid = valid[:i]
			break
		}
	}
	body := askedBody.FindString(valid)
	behind := at + 1 + len(body)
	switch {
	case len(body) == len(valid):
		return askedToken{}, behind
	case s[behind] == '\\':
		return askedToken{}, behind + 1
	case s[behind] != '\'':
		return askedToken{}, behind
	}
	return askedToken{"text", askedPlain.Replace(body), at, behind + 1}, -1
}

// askedOpen is something that is not whole yet: `(`, `[`, `len(`, `?`, `:`, a sign ahead, or a sign between two.
type askedOpen struct {
	kind  string
	op    int
	level int
	kids  []api.Expr
}

type askedReader struct {
	open []askedOpen
	have api.Expr
}

func (r *askedReader) top() string {
	if len(r.open) == 0 {
		return ""
	}
	return r.open[len(r.open)-1].kind
}

func (r *askedReader) push(one askedOpen) {
	r.open = append(r.open, one)
}

func (r *askedReader) pop() askedOpen {
	one := r.open[len(r.open)-1]
	r.open = r.open[:len(r.open)-1]
	return one
}

// close makes whole what ends here: signs between two of this level or tighter ones, signs ahead, and ifs, if they do.
func (r *askedReader) close(level int, ifs bool) {
	for len(r.open) > 0 {
		last := r.open[len(r.open)-1]
		switch {
		case last.kind == "sign", last.kind == "two" && last.level >= level:
			r.have = api.Expr{Op: last.op, Kids: append(last.kids, r.have)}
		case last.kind == ":" && ifs:
			r.have = api.Expr{Op: api.EIf, Kids: append(last.kids, r.have)}
		default:
			return
		}
		r.pop()
	}
}

func (r *askedReader) nesting() int {
	n := 1
	for _, one := range r.open {
		if one.kind != "two" {
			n++
		}
	}
	return n
}

type answer struct {
	e    api.Expr
	at   int
	code api.Errno
}

func askedParse(s string) answer {
	return askedRead(s, true)
}

// askedRead reads s, with the limits on tokens and nesting or without.
func askedRead(s string, limits bool) answer {
	r := askedReader{}
	state, callable := "operand", -1
	at := 0
	for count := 1; ; count++ {
		k, bad := askedNext(s, at)
		if bad >= 0 {
			return answer{at: bad, code: api.ErrExprForm}
		}
		at = k.behind
		if k.kind == "text" && len(k.s) > api.MaxStr || limits && count > api.MaxExpr && k.kind != "end" {
			return answer{at: k.at, code: api.ErrExprLarge}
		}
		if limits && state == "operand" && k.kind != "end" && r.nesting() > api.MaxExprDepth {
			return answer{at: k.at, code: api.ErrExprDeep}
		}
		calls := callable
		callable = -1
		next := ""
		switch state {
		case "operand":
			next = r.operand(k)
			if k.kind == "name" {
				callable = indexOf(askedCalls, k.s)
			}
		case "field":
			if k.kind == "name" {
				r.have = api.Expr{Op: api.EField, Str: k.s, Kids: []api.Expr{r.have}}
				next = "whole"
			}
		default:
			next = r.behind(k, calls)
		}
		switch next {
		case "":
			return answer{at: k.at, code: api.ErrExprForm}
		case "end":
			return answer{e: r.have}
		}
		state = next
	}
}

// operand takes a token where an operand is wanted, and answers what is wanted behind it; nothing, if it may not stand here.
func (r *askedReader) operand(k askedToken) string {
	switch k.kind {
	case "number":
		n, _ := new(big.Int).SetString(k.s, 10)
		r.have = api.Expr{Op: api.EInt, Int: int(n.Int64())}
		return "whole"
	case "text":
		r.have = api.Expr{Op: api.EStr, Str: k.s}
		return "whole"
	case "name":
		r.have = api.Expr{Op: api.EVar, Str: k.s}
		if i := indexOf(askedWords, k.s); i >= 0 {
			r.have = api.Expr{Op: []int{api.ENull, api.EFalse, api.ETrue}[i]}
		}
		return "whole"
	}
	switch k.s {
	case "(":
		r.push(askedOpen{kind: "("})
	case "-":
		r.push(askedOpen{kind: "sign", op: api.ENeg})
	case "!":
		r.push(askedOpen{kind: "sign", op: api.ENot})
	default:
		return ""
	}
	return "operand"
}

// behind takes a token behind a whole operand, which is the name of a call, if calls is not below 0.
func (r *askedReader) behind(k askedToken, calls int) string {
	if k.kind == "end" {
		if r.close(0, true); len(r.open) > 0 {
			return ""
		}
		return "end"
	}
	if k.kind != "sign" {
		return ""
	}
	if level, op, ok := askedTwo(k.s); ok {
		r.close(level, false)
		r.push(askedOpen{kind: "two", op: op, level: level, kids: []api.Expr{r.have}})
		return "operand"
	}
	switch k.s {
	case ".":
		return "field"
	case "[":
		r.push(askedOpen{kind: "[", kids: []api.Expr{r.have}})
		return "operand"
	case "?":
		r.close(0, false)
		r.push(askedOpen{kind: "?", kids: []api.Expr{r.have}})
		return "operand"
	case "(":
		if calls < 0 {
			return ""
		}
		r.push(askedOpen{kind: "call", op: calls + 1})
		return "operand"
	}
	return r.closing(k.s)
}

func (r *askedReader) closing(sign string) string {
	r.close(0, true)
	switch sign + r.top() {
	case ":?":
		test := r.pop()
		r.push(askedOpen{kind: ":", kids: append(test.kids, r.have)})
		return "operand"
	case ")(":
		r.pop()
		return "whole"
	case ")call":
		r.have = api.Expr{Op: api.ECall, Int: r.pop().op, Kids: []api.Expr{r.have}}
		return "whole"
	case "][":
		r.have = api.Expr{Op: api.EIndex, Kids: append(r.pop().kids, r.have)}
		return "whole"
	}
	return ""
}

// askedPieces is how e is written around its kids.
func askedPieces(e api.Expr) []string {
	switch e.Op {
	case api.EField:
		return []string{"", "." + e.Str}
	case api.EIndex:
		return []string{"", "[", "]"}
	case api.ECall:
		return []string{askedCalls[e.Int-1] + "(", ")"}
	case api.ENeg:
		return []string{"-", ""}
	case api.ENot:
		return []string{"!", ""}
	case api.EIf:
		return []string{"", " ? ", " : ", ""}
	case api.EInt:
		return []string{big.NewInt(int64(e.Int)).String()}
	case api.EStr:
		return []string{"'" + askedQuoted.Replace(e.Str) + "'"}
	case api.EVar:
		return []string{e.Str}
	case api.ENull, api.EFalse, api.ETrue:
		return []string{askedWords[e.Op-api.ENull]}
	}
	return []string{"", " " + askedSign(e.Op) + " ", ""}
}

// askedPrint tries a text without parentheses around e's kids, then with some, and takes the first that is read as e.
func askedPrint(e api.Expr) string {
	kids := make([]string, len(e.Kids))
	for i, kid := range e.Kids {
		kids[i] = askedPrint(kid)
	}
	for few := range len(kids) + 1 {
		for mask := range 1 << len(kids) {
			if s := laid(askedPieces(e), kids, mask); ones(mask) == few && alike(askedRead(s, false).e, e) {
				return s
			}
		}
	}
	return "no text is read as the tree"
}

func ones(mask int) int {
	n := 0
	for ; mask > 0; mask >>= 1 {
		n += mask & 1
	}
	return n
}

// laid is the text of pieces with kids between them, each in parentheses that mask has a bit for.
func laid(pieces []string, kids []string, mask int) string {
	s := pieces[0]
	for i, kid := range kids {
		if mask>>i&1 == 1 {
			kid = "(" + kid + ")"
		}
		s += kid + pieces[i+1]
	}
	return s
}

func alike(a, b api.Expr) bool {
	if a.Op != b.Op || a.Int != b.Int || a.Str != b.Str || len(a.Kids) != len(b.Kids) {
		return false
	}
	for i := range a.Kids {
		if !alike(a.Kids[i], b.Kids[i]) {
			return false
		}
	}
	return true
}

// askedKids and the two tables behind it are the Ops by how many kids they have, and those that use Int or Str.
var (
	askedKids = map[int]int{api.ENull: 0, api.EFalse: 0, api.ETrue: 0, api.EInt: 0, api.EStr: 0, api.EVar: 0, api.EField: 1, api.EIndex: 2, api.ECall: 1, api.ENeg: 1, api.ENot: 1, api.EIf: 3,
		api.EMul: 2, api.EDiv: 2, api.EMod: 2, api.EAdd: 2, api.ESub: 2, api.ECat: 2, api.EShl: 2, api.EShr: 2, api.EAnd: 2, api.EXor: 2, api.EOr: 2, api.ELess: 2, api.EMost: 2, api.EMore: 2, api.ELeast: 2, api.ESame: 2, api.EOther: 2, api.EBoth: 2, api.EAny: 2}
	askedInt = map[int]func(int) bool{
		api.EInt:  func(n int) bool { return n >= 0 },
		api.ECall: func(n int) bool { return n >= api.CallLen && n <= api.CallU32 },
	}
	askedStr = map[int]func(string) bool{
		api.EStr: func(s string) bool {
			return len(s) <= api.MaxStr && utf8.ValidString(s) && !regexp.MustCompile(`[\x00-\x09\x0b-\x1f]`).MatchString(s)
		},
		api.EVar: func(s string) bool {
			return askedName.FindString(s) == s && len(s) > 0 && len(s) <= api.MaxName && indexOf(askedWords, s) < 0
		},
		api.EField: func(s string) bool { return askedName.FindString(s) == s && len(s) > 0 && len(s) <= api.MaxName },
	}
)

// askedTree tells whether e, but for its number of nodes, is a tree that could be read.
func askedTree(e api.Expr) bool {
	kids, ok := askedKids[e.Op]
	if !ok || len(e.Kids) != kids {
		return false
	}
	if asked, used := askedInt[e.Op]; used && !asked(e.Int) || !used && e.Int != 0 {
		return false
	}
	if asked, used := askedStr[e.Op]; used && !asked(e.Str) || !used && e.Str != "" {
		return false
	}
	for _, kid := range e.Kids {
		if !askedTree(kid) {
			return false
		}
	}
	return true
}

func nodes(e api.Expr) int {
	n := 1
	for _, kid := range e.Kids {
		n += nodes(kid)
	}
	return n
}

func num(n int) api.Expr { return api.Expr{Op: api.EInt, Int: n} }

func str(s string) api.Expr { return api.Expr{Op: api.EStr, Str: s} }

func variable(s string) api.Expr { return api.Expr{Op: api.EVar, Str: s} }

func field(e api.Expr, s string) api.Expr {
	return api.Expr{Op: api.EField, Str: s, Kids: []api.Expr{e}}
}

func call(n int, e api.Expr) api.Expr {
	return api.Expr{Op: api.ECall, Int: n, Kids: []api.Expr{e}}
}

func op(number int, kids ...api.Expr) api.Expr {
	return api.Expr{Op: number, Kids: append([]api.Expr(nil), kids...)}
}

// filled is an expression of that Op with these kids, as many as it needs.
func filled(number int, kids ...api.Expr) api.Expr {
	e := op(number, kids[:askedKids[number]]...)
	switch number {
	case api.EInt:
		e.Int = 7
	case api.ECall:
		e.Int = api.CallU16
	case api.EStr, api.EVar, api.EField:
		e.Str = "f"
	}
	return e
}

// maker makes random trees and texts.
type maker struct{ *rand.Rand }

func (m maker) pick(those ...string) string {
	return those[m.Intn(len(those))]
}

func (m maker) leaf() api.Expr {
	switch m.Intn(8) {
	case 0:
		return op(api.ENull + m.Intn(3))
	case 1, 2:
		return num([]int{0, 1, 9, 10, 65536, math.MaxInt64}[m.Intn(6)])
	case 3, 4:
		return str(m.pick("", "a", "it's", `\`, "}}", "\n", "é€😀", "{{ x }}", "(", "'\\}\n'", "\x7f\ufffd"))
	}
	return variable(m.pick("a", "b", "item", "len", "u8", "nulls", "a_1", "x9", "str", strings.Repeat("n", api.MaxName)))
}

func (m maker) tree(depth int) api.Expr {
	if depth == 0 || m.Intn(6) == 0 {
		return m.leaf()
	}
	number := api.EField + m.Intn(api.EIf-api.EField+1)
	e := filled(number, m.tree(depth-1), m.tree(depth-1), m.tree(depth-1))
	if number == api.EField {
		e.Str = m.pick("a", "b", "null", "true", "len", "x_y")
	}
	if number == api.ECall {
		e.Int = 1 + m.Intn(8)
	}
	return e
}

func (m maker) blank() string {
	return m.pick("", "", "", " ", "\n", "\t\r ", "   ")
}

// loose is a text that is read as e, with blanks anywhere and parentheses that it may need or not.
func (m maker) loose(e api.Expr) string {
	pieces := []string{}
	for _, piece := range askedPieces(e) {
		pieces = append(pieces, m.piece(piece))
	}
	kids := make([]string, len(e.Kids))
	for i, kid := range e.Kids {
		kids[i] = m.loose(kid)
	}
	if s := laid(pieces, kids, m.Intn(1<<len(kids))); alike(askedRead(s, false).e, e) {
		return s
	}
	return laid(pieces, kids, 1<<len(kids)-1)
}

// piece is a piece with its blanks thrown anew, behind each of its tokens.
func (m maker) piece(piece string) string {
	s := m.blank()
	for at := 0; ; {
		k, _ := askedNext(piece, at)
		if k.kind == "end" {
			return s
		}
		s += piece[k.at:k.behind] + m.blank()
		at = k.behind
	}
}

// spoilt is s with one change somewhere.
func (m maker) spoilt(s string) string {
	at := m.Intn(len(s) + 1)
	behind := min(len(s), at+m.Intn(3))
	switch m.Intn(5) {
	case 0:
		return s[:at]
	case 1:
		return s[:at] + s[behind:]
	case 2:
		return s[:at] + s[at:behind] + s[at:]
	case 3:
		return s[:at] + string([]byte{byte(m.Intn(256))}) + s[behind:]
	}
	return s[:at] + m.pick(append(askedSigns, "a", "1", "'x'", "len", "null", "0", "=", "'", "\\", "A", "9999999999999999999", strings.Repeat("n", 33))...) + s[behind:]
}
