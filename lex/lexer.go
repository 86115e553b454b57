package lex

import (
	"strings"

	"stencil/api"
	"stencil/html"
	"stencil/utf"
)

const (
	blanks   = " \t\n\r"
	tagBytes = "abcdefghijklmnopqrstuvwxyz0123456789-"

	braces  = "{{"
	closing = "</"
	opening = "<"
)

// fault is an error with its place.
type fault struct {
	code api.Errno
	at   int
}

// lexer goes through a template from the left. What is read behind the first fault counts for nothing, so the steps of a token need not ask one another whether they failed.
type lexer struct {
	input string
	at    int
	inTag bool
	met   fault
}

// tokens yields the tokens up to the first fault, or to the end.
func (l *lexer) tokens(yield func(api.Token) bool) {
	for l.inTag || l.at < len(l.input) {
		scan := l.scanner()
		if token := scan(); l.failed() || !yield(token) {
			return
		}
	}
}

// scanner is what reads the token that begins here.
func (l *lexer) scanner() func() api.Token {
	switch {
	case l.inTag:
		return l.inside
	case l.begins(braces):
		return l.interpolation
	case l.begins(closing):
		return l.closingTag
	case l.begins(opening):
		return l.openingTag
	}
	return l.text
}

func (l *lexer) text() api.Token {
	start := l.at
	l.at = l.textEnd()
	text := l.plain(start, l.input[start:l.at])
	l.limit(text, start)
	return api.Token{Kind: api.TokText, Text: text, At: start}
}

// textEnd asks for both ends byte by byte: to search the rest for each of them would go through it once for each text.
func (l *lexer) textEnd() int {
	end := l.at
seeking:
	for ; end < len(l.input); end++ {
		switch l.input[end] {
		case '<':
			break seeking
		case '{':
			if strings.HasPrefix(l.input[end:], braces) {
				break seeking
			}
		}
	}
	return end
}

func (l *lexer) interpolation() api.Token {
	start := l.at
	l.must(braces)
	between := l.upTo("}}", fault{api.ErrLexBrace, start})
	return api.Token{Kind: api.TokExpr, Text: strings.Clone(between), At: start}
}

func (l *lexer) openingTag() api.Token {
	start := l.at
	l.must(opening)
	l.inTag = true
	return api.Token{Kind: api.TokOpen, Name: l.name(), At: start}
}

func (l *lexer) closingTag() api.Token {
	start := l.at
	l.must(closing)
	name := l.name()
	l.skip(blanks)
	l.must(">")
	return api.Token{Kind: api.TokClose, Name: name, At: start}
}

// inside reads what follows in an opening tag: its end, or an attribute.
func (l *lexer) inside() api.Token {
	apart := l.skip(blanks) != ""
	switch {
	case l.begins(">"), l.begins("/"):
		return l.tagEnd()
	case apart:
		return l.attribute()
	}
	l.misplaced(l.at)
	return api.Token{}
}

func (l *lexer) tagEnd() api.Token {
	token := api.Token{Kind: api.TokEnd, At: l.at}
	if l.take("/") {
		token.Kind = api.TokSelf
	}
	l.must(">")
	l.inTag = false
	return token
}

func (l *lexer) attribute() api.Token {
	token := api.Token{Kind: api.TokAttr, At: l.at}
	if l.take(":") {
		token.Kind = api.TokBound
	}
	token.Name = l.name()
	l.must("=")
	quote := l.at
	l.must(`"`)
	start := l.at
	token.Text = l.plain(start, l.upTo(`"`, fault{api.ErrLexAttr, quote}))
	// What is bound is no text that is kept, but an expression, which has its own bounds.
	if token.Kind == api.TokAttr {
		l.limit(token.Text, quote)
	}
	return token
}

// name goes past a tag. Whether it has no byte, a wrong first one or too many, its beginning is the fault's place.
func (l *lexer) name() string {
	start := l.at
	name := l.skip(tagBytes)
	if !utf.Tag(name) {
		l.misplaced(start)
	}
	return strings.Clone(name)
}

// plain is what a text that stands at start says.
func (l *lexer) plain(start int, written string) string {
	text, at, code := html.Plain(written)
	if code != api.OK {
		l.refuse(fault{api.ErrLexEntity, start + at})
	}
	return text
}

func (l *lexer) limit(text string, start int) {
	if len(text) > api.MaxStr {
		l.refuse(fault{api.ErrLexLong, start})
	}
}

func (l *lexer) begins(sign string) bool {
	return strings.HasPrefix(l.input[l.at:], sign)
}

// take goes past a sign, if it stands here.
func (l *lexer) take(sign string) bool {
	if !l.begins(sign) {
		return false
	}
	l.at += len(sign)
	return true
}

// must goes past a sign of a tag that has to stand here.
func (l *lexer) must(sign string) {
	if !l.take(sign) {
		l.misplaced(l.at)
	}
}

// skip goes on to the first byte that is none of those, and answers what it went past.
func (l *lexer) skip(those string) string {
	start := l.at
	for l.at < len(l.input) && strings.IndexByte(those, l.input[l.at]) >= 0 {
		l.at++
	}
	return l.input[start:l.at]
}

// upTo goes past the next such sign, and answers what stands ahead of it.
func (l *lexer) upTo(sign string, missing fault) string {
	between, _, found := strings.Cut(l.input[l.at:], sign)
	if !found {
		l.refuse(missing)
		return ""
	}
	l.at += len(between) + len(sign)
	return between
}

func (l *lexer) misplaced(at int) {
	l.refuse(fault{api.ErrLexTag, at})
}

// refuse keeps the first fault alone.
func (l *lexer) refuse(met fault) {
	if !l.failed() {
		l.met = met
	}
}

func (l *lexer) failed() bool {
	return l.met.code != api.OK
}
