package data

import (
	"fmt"
	"math/big"
	"math/rand"
	"regexp"
	"strconv"
	"strings"
	"unicode/utf16"
	"unicode/utf8"

	"stencil/api"
)

var null = api.Value{Kind: api.KNull}

func boolean(b bool) api.Value { return api.Value{Kind: api.KBool, Bool: b} }

func num(x int) api.Value { return api.Value{Kind: api.KInt, Int: x} }

func str(s string) api.Value { return api.Value{Kind: api.KStr, Str: s} }

func list(vs ...api.Value) api.Value { return api.Value{Kind: api.KList, List: vs} }

// rec is a record of the names, cut at each comma; "-" is a record without a name, for one name may be empty.
func rec(names string, vs ...api.Value) api.Value {
	v := api.Value{Kind: api.KRec, List: vs}
	if names != "-" {
		v.Names = strings.Split(names, ",")
	}
	return v
}

// nest is inner with shells around it, lists and records by turns from the innermost on.
func nest(shells int, inner api.Value) api.Value {
	for i := range shells {
		if i%2 == 0 {
			inner = list(inner)
		} else {
			inner = rec("a", inner)
		}
	}
	return inner
}

// many is a list of n elements, all nulls.
func many(n int) api.Value {
	v := list(make([]api.Value, n)...)
	for i := range v.List {
		v.List[i] = null
	}
	return v
}

// alike is whether all fields are the same, also those that a kind does not use; an empty list is as good as nil.
func alike(a, b api.Value) bool {
	good := a.Kind == b.Kind && a.Bool == b.Bool && a.Int == b.Int && a.Str == b.Str && len(a.List) == len(b.List) && len(a.Names) == len(b.Names)
	for i := 0; good && i < len(a.Names); i++ {
		good = a.Names[i] == b.Names[i]
	}
	for i := 0; good && i < len(a.List); i++ {
		good = alike(a.List[i], b.List[i])
	}
	return good
}

// asked reads bytes as P6.1 says, in one loop, by what may follow and a stack of what is open.
type asked struct {
	b      []byte
	at     int
	follow byte // v: a value; e: a value or `]`; n: a name; m: a name or `}`; c: a colon; d: `,`, a closing bracket or the end
	open   []api.Value
	begun  int
	whole  api.Value
}

type answer struct {
	v    api.Value
	at   int
	code api.Errno
}

func form(at int) *answer { return &answer{at: at, code: 600} }

func askedParse(b []byte) answer {
	if len(b) > 65536 {
		return answer{code: 605}
	}
	a := asked{b: b, follow: 'v'}
	for {
		for a.at < len(b) && (b[a.at] == 32 || b[a.at] == 9 || b[a.at] == 10 || b[a.at] == 13) {
			a.at++
		}
		if a.at == len(b) {
			if a.follow == 'd' && len(a.open) == 0 {
				return answer{v: a.whole}
			}
			return *form(a.at)
		}
		if wrong := a.step(b[a.at]); wrong != nil {
			return *wrong
		}
	}
}

// step reads one token.
func (a *asked) step(c byte) *answer {
	top := len(a.open) - 1
	switch {
	case a.follow == 'c' && c == ':':
		a.follow = 'v'
	case a.follow == 'e' && c == ']', a.follow == 'm' && c == '}', a.follow == 'd' && top >= 0 && c == "]}"[a.open[top].Kind-5]:
		v := a.open[top]
		a.open = a.open[:top]
		a.put(v)
	case a.follow == 'd' && top >= 0 && c == ',':
		a.follow = "vn"[a.open[top].Kind-5]
	case (a.follow == 'n' || a.follow == 'm') && c == '"':
		return a.name()
	case (a.follow == 'v' || a.follow == 'e') && strings.ContainsRune("0123456789-\"[{tfn", rune(c)):
		return a.value(c)
	default:
		return form(a.at)
	}
	a.at++
	return nil
}

// put lays a value that has ended into what is open around it.
func (a *asked) put(v api.Value) {
	a.follow = 'd'
	if len(a.open) == 0 {
		a.whole = v
		return
	}
	top := &a.open[len(a.open)-1]
	top.List = append(top.List, v)
}

func (a *asked) name() *answer {
	start := a.at
	s, wrong := a.text()
	if wrong != nil {
		return wrong
	}
	top := &a.open[len(a.open)-1]
	for _, other := range top.Names {
		if other == s {
			return &answer{at: start, code: 602}
		}
	}
	top.Names = append(top.Names, s)
	a.follow = 'c'
	return nil
}

func (a *asked) value(c byte) *answer {
	a.begun++
	switch {
	case len(a.open)+1 > 24:
		return &answer{at: a.at, code: 603}
	case a.begun > 16384:
		return &answer{at: a.at, code: 604}
	case c == '[' || c == '{':
		kind := map[byte]int{'[': 5, '{': 6}[c]
		a.open = append(a.open, api.Value{Kind: kind})
		a.follow = "em"[kind-5]
		a.at++
		return nil
	case c == '"':
		s, wrong := a.text()
		if wrong == nil {
			a.put(str(s))
		}
		return wrong
	case strings.ContainsRune("tfn", rune(c)):
		return a.word(map[byte]string{'t': "true", 'f': "false", 'n': "null"}[c])
	}
	return a.number()
}

func (a *asked) word(word string) *answer {
	for i := range word {
		if a.at+i == len(a.b) || a.b[a.at+i] != word[i] {
			return form(a.at + i)
		}
	}
	a.at += len(word)
	a.put(map[string]api.Value{"true": boolean(true), "false": boolean(false), "null": null}[word])
	return nil
}

var askedNumber = regexp.MustCompile(`^(0|-?[1-9][0-9]*)`)

func (a *asked) number() *answer {
	text := askedNumber.FindString(string(a.b[a.at:]))
	behind := a.at + len(text)
	switch {
	case text == "":
		return form(a.at + 1)
	case text == "0" && behind < len(a.b) && a.b[behind] >= '0' && a.b[behind] <= '9':
		return form(behind)
	}
	n, _ := new(big.Int).SetString(text, 10)
	if !n.IsInt64() {
		return &answer{at: a.at, code: 601}
	}
	a.at = behind
	a.put(num(int(n.Int64())))
	return nil
}

var (
	askedUnit  = regexp.MustCompile(`^\\u[0-9a-fA-F]{4}`)
	askedShort = map[byte]string{'"': "\"", '\\': "\\", '/': "/", 'b': "\x08", 'f': "\x0c", 'n': "\x0a", 'r': "\x0d", 't': "\x09"}
)

func (a *asked) text() (string, *answer) {
	start, out := a.at, ""
	for a.at++; a.at < len(a.b) && a.b[a.at] != '"'; {
		piece, wrong := a.piece(a.b[a.at:])
		if wrong != nil {
			return "", wrong
		}
		out += piece
	}
	if a.at == len(a.b) {
		return "", form(a.at)
	}
	a.at++
	if len(out) > 4096 {
		return "", &answer{at: start, code: 605}
	}
	return out, nil
}

// piece reads one character of a text.
func (a *asked) piece(rest []byte) (string, *answer) {
	if rest[0] != '\\' {
		for n := 1; n <= 4 && n <= len(rest); n++ {
			if rest[0] >= 32 && utf8.Valid(rest[:n]) {
				a.at += n
				return string(rest[:n]), nil
			}
		}
		return "", form(a.at)
	}
	if len(rest) > 1 && askedShort[rest[1]] != "" {
		a.at += 2
		return askedShort[rest[1]], nil
	}
	unit := askedUnit.FindString(string(rest[:min(6, len(rest))]))
	if unit == "" {
		for n, may := range []string{"\\", "u", "0123456789abcdefABCDEF", "0123456789abcdefABCDEF", "0123456789abcdefABCDEF", "0123456789abcdefABCDEF"} {
			if n == len(rest) || !strings.Contains(may, string(rune(rest[n]))) {
				return "", form(a.at + n)
			}
		}
	}
	first, _ := strconv.ParseUint(unit[2:], 16, 16)
	if !utf16.IsSurrogate(rune(first)) {
		a.at += 6
		return string(rune(first)), nil
	}
	mate := askedUnit.FindString(string(rest[6:min(12, len(rest))]))
	if mate == "" {
		return "", form(a.at)
	}
	second, _ := strconv.ParseUint(mate[2:], 16, 16)
	pair := utf16.DecodeRune(rune(first), rune(second))
	if pair == utf8.RuneError {
		return "", form(a.at)
	}
	a.at += 12
	return string(pair), nil
}

// askedEscapes writes a text as P6.2 says.
var askedEscapes = func() *strings.Replacer {
	pairs := []string{"\"", `\"`, "\\", `\\`, "\x08", `\b`, "\x0c", `\f`, "\x0a", `\n`, "\x0d", `\r`, "\x09", `\t`}
	for c := range 32 {
		if !strings.Contains("\x08\x0c\x0a\x0d\x09", string(rune(c))) {
			pairs = append(pairs, string(rune(c)), fmt.Sprintf(`\u00%02x`, c))
		}
	}
	return strings.NewReplacer(pairs...)
}()

// askedPrint writes a value that may be as P6.2 says.
func askedPrint(v api.Value) string {
	var parts []string
	for i, one := range v.List {
		part := askedPrint(one)
		if v.Kind == 6 {
			part = askedPrint(str(v.Names[i])) + ":" + part
		}
		parts = append(parts, part)
	}
	inside := strings.Join(parts, ",")
	return map[int]string{
		1: "null", 2: strconv.FormatBool(v.Bool), 3: strconv.FormatInt(int64(v.Int), 10), 4: `"` + askedEscapes.Replace(v.Str) + `"`,
		5: "[" + inside + "]", 6: "{" + inside + "}",
	}[v.Kind]
}

// maker makes values that may be, and texts of them with blanks and escapes wherever they may stand.
type maker struct{ *rand.Rand }

func (m maker) text() string {
	runes := []rune{'a', 'b', '"', '\\', '/', 0, 1, 8, 9, 10, 12, 13, 31, 32, 127, 128, 'é', 0x7ff, 0x800, 0xd7ff, 0xe000, 0xfffd, 0xffff, 0x10000, 0x1f600, 0x10ffff}
	out := ""
	for range m.Intn(6) {
		out += string(runes[m.Intn(len(runes))])
	}
	return out
}

func (m maker) value(room int) api.Value {
	v := api.Value{Kind: 1 + m.Intn(6)}
	switch v.Kind {
	case 2:
		v.Bool = m.Intn(2) == 0
	case 3:
		v.Int = int(m.Uint64()) >> m.Intn(64)
	case 4:
		v.Str = m.text()
	case 5, 6:
		met := map[string]bool{}
		for range m.Intn(5) {
			if room == 0 {
				break
			}
			if name := m.text(); v.Kind == 6 && !met[name] {
				met[name] = true
				v.Names = append(v.Names, name)
			} else if v.Kind == 6 {
				continue
			}
			v.List = append(v.List, m.value(room-1))
		}
	}
	return v
}

func (m maker) blanks() string {
	out := ""
	for m.Intn(3) == 0 {
		out += string(" \t\n\r"[m.Intn(4)])
	}
	return out
}

// units writes a character as escapes of four hex digits, of either case.
func (m maker) units(c rune) string {
	out := ""
	for _, unit := range utf16.Encode([]rune{c}) {
		for i, digit := range fmt.Sprintf(`\u%04x`, unit) {
			if i > 1 && m.Intn(2) == 0 {
				digit = []rune(strings.ToUpper(string(digit)))[0]
			}
			out += string(digit)
		}
	}
	return out
}

func (m maker) loose(s string) string {
	out := ""
	for _, c := range s {
		switch short := askedEscapes.Replace(string(c)); {
		case m.Intn(3) == 0:
			out += m.units(c)
		case c == '/' && m.Intn(2) == 0:
			out += `\/`
		default:
			out += short
		}
	}
	return `"` + out + `"`
}

// print is one of the many texts that v has.
func (m maker) print(v api.Value) string {
	out := askedPrint(v)
	switch v.Kind {
	case 4:
		out = m.loose(v.Str)
	case 5, 6:
		var parts []string
		for i, one := range v.List {
			part := m.print(one)
			if v.Kind == 6 {
				part = m.blanks() + m.loose(v.Names[i]) + m.blanks() + ":" + part
			}
			parts = append(parts, part)
		}
		inside := strings.Join(parts, ",")
		if len(parts) == 0 {
			inside = m.blanks()
		}
		out = out[:1] + inside + out[len(out)-1:]
	}
	return m.blanks() + out + m.blanks()
}

// spoilt is s with a few of its bytes left out, doubled, changed or made way for others.
func (m maker) spoilt(s string) string {
	const some = "[]{},:\"\\/ \t\x00\x1f\x7f\x80\xbf\xc3\xe2\xed\xf4\xff0123456789-+.eEudDcCbfnrtalsnx"
	for range 1 + m.Intn(3) {
		at := m.Intn(len(s) + 1)
		behind := min(at+m.Intn(3), len(s))
		middle := ""
		switch m.Intn(4) {
		case 0:
			i := m.Intn(len(some))
			middle = some[i : i+1]
		case 1:
			middle = strings.Repeat(s[at:behind], 2)
		case 2:
			from := m.Intn(len(s) + 1)
			middle = s[from:min(from+m.Intn(8), len(s))]
		}
		s = s[:at] + middle + s[behind:]
	}
	return s
}
