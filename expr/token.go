package expr

import (
	"strings"
	"unicode/utf8"

	"stencil/api"
	"stencil/utf"
	"stencil/whole"
)

const (
	blanks  = " \t\n\r"
	digits  = "0123456789"
	letters = "abcdefghijklmnopqrstuvwxyz"
)

// Kinds of tokens; that the text ends is told as one too, so that there always is a next one.
const (
	endToken = iota
	numberToken
	textToken
	nameToken
	signToken
)

// token is a piece of an expression's text; of a text it holds what that stands for.
type token struct {
	kind   int
	text   string
	number int
	at     int
}

func (k token) is(sign string) bool {
	return k.kind == signToken && k.text == sign
}

// misplaced is the fault of a token that may not stand where it does.
func (k token) misplaced() fault {
	return fault{api.ErrExprForm, k.at}
}

// fault is what a reader panics with.
type fault struct {
	code api.Errno
	at   int
}

// reader hands on the tokens of a text: token is the next one, at the place behind it. A token is gone past only when it may stand where it does, so the first fault that is met is the first one that there is.
type reader struct {
	input string
	at    int
	read  int
	token token
}

func (r *reader) advance() {
	r.skip(blanks)
	start := r.at
	r.token = r.scan()
	r.token.at = start
	if r.token.kind == endToken {
		return
	}
	if r.read == api.MaxExpr {
		panic(fault{api.ErrExprLarge, start})
	}
	r.read++
}

// take goes past a sign that must stand here.
func (r *reader) take(sign string) {
	if !r.token.is(sign) {
		panic(r.token.misplaced())
	}
	r.advance()
}

func (r *reader) scan() token {
	switch {
	case r.at == len(r.input):
		return token{kind: endToken}
	case r.next() == '\'':
		return token{kind: textToken, text: r.text()}
	case isOf(digits, r.next()):
		return token{kind: numberToken, number: r.number()}
	case isOf(letters, r.next()):
		return token{kind: nameToken, text: r.name()}
	}
	return token{kind: signToken, text: r.sign()}
}

// refuse is called where the next byte, or that there is none, is the fault.
func (r *reader) refuse() {
	panic(fault{api.ErrExprForm, r.at})
}

// next is the byte that follows; it is asked only where one must.
func (r *reader) next() byte {
	if r.at == len(r.input) {
		r.refuse()
	}
	return r.input[r.at]
}

// skip goes on to the first byte that is none of those, and answers what it went past.
func (r *reader) skip(those string) string {
	start := r.at
	for r.at < len(r.input) && isOf(those, r.input[r.at]) {
		r.at++
	}
	return r.input[start:r.at]
}

// number ends behind a 0 that stands ahead: what follows it is another token.
func (r *reader) number() int {
	if r.next() == '0' {
		r.at++
		return 0
	}
	start := r.at
	n, code := whole.Parse(r.skip(digits))
	if code != api.OK {
		panic(fault{api.ErrExprForm, start})
	}
	return n
}

func (r *reader) name() string {
	start := r.at
	name := r.skip(letters + digits + "_")
	if !utf.Name(name) {
		panic(fault{api.ErrExprForm, start})
	}
	return name
}

// sign tries the long signs ahead of the short ones that they begin with.
func (r *reader) sign() string {
	for _, sign := range [...]string{
		"||", "&&", "==", "!=", "<=", ">=", "<<", ">>",
		"?", ":", "<", ">", "|", "^", "&", "~", "+", "-", "*", "/", "%", "!", ".", "[", "]", "(", ")",
	} {
		if strings.HasPrefix(r.input[r.at:], sign) {
			r.at += len(sign)
			return sign
		}
	}
	panic(fault{api.ErrExprForm, r.at})
}

// text asks how long it is only at its end, since a byte that may not stand in it is the fault ahead of that.
func (r *reader) text() string {
	start := r.at
	r.at++
	var out []byte
	for r.next() != '\'' {
		out = utf8.AppendRune(out, r.character())
	}
	r.at++
	if len(out) > api.MaxStr {
		panic(fault{api.ErrExprLarge, start})
	}
	return string(out)
}

func (r *reader) character() rune {
	c, size := utf8.DecodeRuneInString(r.input[r.at:])
	// U+FFFD itself may stand in a text; it has a size of 3.
	if c < ' ' || c == utf8.RuneError && size == 1 {
		r.refuse()
	}
	r.at += size
	if c == '\\' {
		return r.escaped()
	}
	return c
}

// escaped is what the byte behind a `\` stands for.
func (r *reader) escaped() rune {
	i := strings.IndexByte(escapeLetters, r.next())
	if i < 0 {
		r.refuse()
	}
	r.at++
	return rune(escapedBytes[i])
}

func isOf(those string, c byte) bool {
	return strings.IndexByte(those, c) >= 0
}
