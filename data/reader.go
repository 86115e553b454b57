package data

import (
	"bytes"
	"strings"
	"unicode/utf8"

	"stencil/api"
	"stencil/whole"
)

const (
	blanks       = " \t\n\r"
	digits       = "0123456789"
	hexDigits    = digits + "abcdef"
	valueStarts  = `ntf-"[{` + digits
	unitDigits   = 4
	unitEscape   = `\u`
	escapedBytes = "\"\\/\b\f\n\r\t"
	// escapeLetters holds, in the row of escapedBytes, what stands behind a `\` for each.
	escapeLetters = `"\/bfnrt`
)

// The surrogates: high ones, then low ones; a pair stands for a character from pairsFirst on.
const (
	highFirst  = 0xd800
	lowFirst   = 0xdc00
	lowLast    = 0xdfff
	pairsFirst = 0x10000
)

// fault is what a reader panics with.
type fault struct {
	code api.Errno
	at   int
}

// reader stands at a place of the bytes, and knows how many values have begun ahead of it.
type reader struct {
	input []byte
	at    int
	begun int
}

// document is the value that all of b says, or the first fault on the way.
func document(b []byte) (v api.Value, met fault) {
	defer func() {
		if f, ok := recover().(fault); ok {
			v, met = api.Value{}, f
		}
	}()
	r := reader{input: b}
	v = r.value(1)
	r.skipBlanks()
	if r.at < len(b) {
		r.refuse()
	}
	return v, met
}

// refuse is called where the next byte, or that there is none, is the fault.
func (r *reader) refuse() {
	panic(fault{api.ErrDataForm, r.at})
}

// next is the byte that follows; it is asked only where one must.
func (r *reader) next() byte {
	if r.at == len(r.input) {
		r.refuse()
	}
	return r.input[r.at]
}

func (r *reader) take(c byte) {
	if r.next() != c {
		r.refuse()
	}
	r.at++
}

func (r *reader) takeWord(word string) {
	for i := range len(word) {
		r.take(word[i])
	}
}

// skip goes on to the first byte that is none of those.
func (r *reader) skip(those string) {
	for r.at < len(r.input) && isOf(those, r.input[r.at]) {
		r.at++
	}
}

func (r *reader) skipBlanks() {
	r.skip(blanks)
}

func (r *reader) value(depth int) api.Value {
	r.skipBlanks()
	r.begin(depth)
	switch r.next() {
	case 'n':
		r.takeWord("null")
		return api.Value{Kind: api.KNull}
	case 't':
		r.takeWord("true")
		return api.Value{Kind: api.KBool, Bool: true}
	case 'f':
		r.takeWord("false")
		return api.Value{Kind: api.KBool}
	case '"':
		return api.Value{Kind: api.KStr, Str: r.text()}
	case '[':
		return r.list(depth)
	case '{':
		return r.record(depth)
	}
	return api.Value{Kind: api.KInt, Int: r.number()}
}

// begin asks whether a value may begin at the next byte, ahead of all else of it; so no bytes, however they nest, lead a reader deeper than MaxDepth.
func (r *reader) begin(depth int) {
	if !isOf(valueStarts, r.next()) {
		r.refuse()
	}
	if depth > api.MaxDepth {
		panic(fault{api.ErrDataDeep, r.at})
	}
	if r.begun == api.MaxItems {
		panic(fault{api.ErrDataLarge, r.at})
	}
	r.begun++
}

func (r *reader) list(depth int) api.Value {
	v := api.Value{Kind: api.KList}
	r.row('[', ']', func() {
		v.List = append(v.List, r.value(depth+1))
	})
	return v
}

func (r *reader) record(depth int) api.Value {
	v := api.Value{Kind: api.KRec}
	met := map[string]int{}
	r.row('{', '}', func() {
		v.Names = append(v.Names, r.name(met))
		r.skipBlanks()
		r.take(':')
		v.List = append(v.List, r.value(depth+1))
	})
	return v
}

// row reads what stands between two brackets, each by one, with `,` between.
func (r *reader) row(opening, closing byte, one func()) {
	r.take(opening)
	r.skipBlanks()
	for first := true; r.next() != closing; first = false {
		if !first {
			r.take(',')
			r.skipBlanks()
		}
		one()
		r.skipBlanks()
	}
	r.take(closing)
}

// name reads a text that must not be among the names met so far, and puts it there.
func (r *reader) name(met map[string]int) string {
	start := r.at
	name := r.text()
	if _, twice := met[name]; twice {
		panic(fault{api.ErrDataTwice, start})
	}
	met[name] = start
	return name
}

func (r *reader) number() int {
	start := r.at
	if r.next() == '-' {
		r.at++
		if c := r.next(); c < '1' || c > '9' {
			r.refuse()
		}
	}
	if r.next() == '0' {
		r.at++
		if r.at < len(r.input) && isOf(digits, r.next()) {
			r.refuse()
		}
	}
	r.skip(digits)
	n, code := whole.Parse(string(r.input[start:r.at]))
	if code != api.OK {
		panic(fault{api.ErrDataNumber, start})
	}
	return n
}

func (r *reader) text() string {
	start := r.at
	r.take('"')
	var out []byte
	for r.next() != '"' {
		out = utf8.AppendRune(out, r.character())
	}
	r.take('"')
	if len(out) > api.MaxStr {
		panic(fault{api.ErrDataLong, start})
	}
	return string(out)
}

func (r *reader) character() rune {
	if r.next() == '\\' {
		return r.escape()
	}
	c, size := utf8.DecodeRune(r.input[r.at:])
	// U+FFFD itself may stand in a text; it has a size of 3.
	if c < ' ' || c == utf8.RuneError && size == 1 {
		r.refuse()
	}
	r.at += size
	return c
}

func (r *reader) escape() rune {
	start := r.at
	r.take('\\')
	if r.next() == 'u' {
		r.at++
		return r.unit(start)
	}
	i := strings.IndexByte(escapeLetters, r.next())
	if i < 0 {
		r.refuse()
	}
	r.at++
	return rune(escapedBytes[i])
}

// unit reads the digits of an escape that begins at start, and of its mate, if it is a high surrogate.
func (r *reader) unit(start int) rune {
	c, size := hexUnit(r.input[r.at:])
	r.at += size
	if size < unitDigits {
		r.refuse()
	}
	if isLow(c) {
		panic(fault{api.ErrDataForm, start})
	}
	if !isHigh(c) {
		return c
	}
	low, ok := lowUnit(r.input[r.at:])
	if !ok {
		panic(fault{api.ErrDataForm, start})
	}
	r.at += len(unitEscape) + unitDigits
	return pairsFirst + (c-highFirst)<<10 + (low - lowFirst)
}

// lowUnit is the low surrogate whose six bytes b begins with, if they are there; it does not panic, for the fault is the high one's, wherever these go wrong.
func lowUnit(b []byte) (rune, bool) {
	if !bytes.HasPrefix(b, []byte(unitEscape)) {
		return 0, false
	}
	c, size := hexUnit(b[len(unitEscape):])
	if size < unitDigits || !isLow(c) {
		return 0, false
	}
	return c, true
}

// hexUnit is the number that the hex digits ahead in b make, four at the most, and how many they are.
func hexUnit(b []byte) (rune, int) {
	c, size := rune(0), 0
	for size < unitDigits && size < len(b) {
		digit := hexDigit(b[size])
		if digit < 0 {
			break
		}
		c = c<<4 + rune(digit)
		size++
	}
	return c, size
}

// hexDigit is what the digit c of either case is worth; -1, if it is none.
func hexDigit(c byte) int {
	if 'A' <= c && c <= 'F' {
		c += 'a' - 'A'
	}
	return strings.IndexByte(hexDigits, c)
}

func isHigh(c rune) bool {
	return highFirst <= c && c < lowFirst
}

func isLow(c rune) bool {
	return lowFirst <= c && c <= lowLast
}

func isOf(those string, c byte) bool {
	return strings.IndexByte(those, c) >= 0
}
