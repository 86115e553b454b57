package lex

import (
	"math/rand"
	"regexp"
	"strings"
	"unicode/utf8"

	"stencil/api"
)

// What the document asks for, said a second time: a tag by a machine that is fed byte by byte, entities by regular expressions.

// answer is what Lex tells.
type answer struct {
	tokens []api.Token
	at     int
	code   api.Errno
}

func failed(at int, code api.Errno) answer { return answer{at: at, code: code} }

func token(kind int, name, text string, at int) api.Token {
	return api.Token{Kind: kind, Name: name, Text: text, At: at}
}

const (
	letterBytes = "abcdefghijklmnopqrstuvwxyz"
	nameBytes   = letterBytes + "0123456789-"
	blankBytes  = "\x20\x09\x0a\x0d"
)

// step leads from one state to another by any of the bytes.
type step struct{ bytes, to string }

// askedSteps is which byte may stand where in a tag: by what stands ahead of it, what it makes.
var askedSteps = map[string][]step{
	"opening":      {{"/", "closing"}, {letterBytes, "tag"}},
	"tag":          {{nameBytes, "tag"}, {blankBytes, "apart"}, {"/", "slash"}, {">", "end"}},
	"apart":        {{blankBytes, "apart"}, {":", "colon"}, {letterBytes, "attribute"}, {"/", "slash"}, {">", "end"}},
	"colon":        {{letterBytes, "attribute"}},
	"attribute":    {{nameBytes, "attribute"}, {"=", "equals"}},
	"equals":       {{`"`, "quoted"}},
	"quoted":       {{`"`, "unquoted"}},
	"unquoted":     {{blankBytes, "apart"}, {"/", "slash"}, {">", "end"}},
	"slash":        {{">", "end"}},
	"closing":      {{letterBytes, "closing tag"}},
	"closing tag":  {{nameBytes, "closing tag"}, {blankBytes, "closing rest"}, {">", "end"}},
	"closing rest": {{blankBytes, "closing rest"}, {">", "end"}},
}

func askedStep(state string, c byte) string {
	for _, one := range askedSteps[state] {
		if strings.Contains(one.bytes, string([]byte{c})) {
			return one.to
		}
	}
	if state == "quoted" {
		return state
	}
	return ""
}

// run is a stretch of bytes that made one state.
type run struct {
	state         string
	start, behind int
}

// askedTag is the tokens of the tag that begins at start, and the place behind it.
func askedTag(s string, start int) (answer, int) {
	state, runs := "opening", []run{{"opening", start, start + 1}}
	for at := start + 1; state != "end"; at++ {
		last := &runs[len(runs)-1]
		if at == len(s) {
			if state == "quoted" {
				return failed(last.start, api.ErrLexAttr), 0
			}
			return failed(at, api.ErrLexTag), 0
		}
		next := askedStep(state, s[at])
		if next == "" {
			return failed(at, api.ErrLexTag), 0
		}
		if next == state {
			last.behind++
		} else {
			runs = append(runs, run{next, at, at + 1})
			last = &runs[len(runs)-1]
		}
		if isNaming(next) && last.behind-last.start > 32 {
			return failed(last.start, api.ErrLexTag), 0
		}
		if next == "unquoted" {
			if bad := askedValue(s, runs); bad.code != api.OK {
				return bad, 0
			}
		}
		state = next
	}
	return answer{tokens: askedRuns(s, runs)}, runs[len(runs)-1].behind
}

func isNaming(state string) bool {
	return state == "tag" || state == "attribute" || state == "closing tag"
}

// askedValue asks what the attribute says whose second quote is the last run; its first quote begins the run ahead of that.
func askedValue(s string, runs []run) answer {
	quoted := runs[len(runs)-2]
	bound := runs[len(runs)-5].state == "colon"
	return askedSaid(s, quoted.start+1, quoted.behind, quoted.start, bound)
}

// askedRuns makes the tokens of a tag from its runs.
func askedRuns(s string, runs []run) []api.Token {
	var ts []api.Token
	for i, one := range runs {
		written := s[one.start:one.behind]
		switch one.state {
		case "tag":
			ts = append(ts, token(api.TokOpen, written, "", runs[0].start))
		case "closing tag":
			return []api.Token{token(api.TokClose, written, "", runs[0].start)}
		case "attribute":
			said, _ := askedPlain(s[runs[i+2].start+1 : runs[i+2].behind])
			if ahead := runs[i-1]; ahead.state == "colon" {
				ts = append(ts, token(api.TokBound, written, said, ahead.start))
			} else {
				ts = append(ts, token(api.TokAttr, written, said, one.start))
			}
		case "end":
			if ahead := runs[i-1]; ahead.state == "slash" {
				ts = append(ts, token(api.TokSelf, "", "", ahead.start))
			} else {
				ts = append(ts, token(api.TokEnd, "", "", one.start))
			}
		}
	}
	return ts
}

var (
	askedEntity   = regexp.MustCompile(`&(amp|lt|gt|lbrace|quot);`)
	askedStandFor = strings.NewReplacer("&amp;", "&", "&lt;", "<", "&gt;", ">", "&lbrace;", "{", "&quot;", `"`)
)

// askedPlain is what a written text says, or the place of the first `&` that begins no entity, else -1.
func askedPlain(written string) (string, int) {
	hidden := askedEntity.ReplaceAllStringFunc(written, func(name string) string { return strings.Repeat("#", len(name)) })
	return askedStandFor.Replace(written), strings.Index(hidden, "&")
}

// askedSaid asks what s says from start to behind; it is told at place, if it is too long.
func askedSaid(s string, start, behind, place int, bound bool) answer {
	said, bad := askedPlain(s[start:behind])
	if bad >= 0 {
		return failed(start+bad, api.ErrLexEntity)
	}
	if len(said) > 4096 && !bound {
		return failed(place, api.ErrLexLong)
	}
	return answer{}
}

// nearest is the place of the nearest of the signs behind from, or how long s is.
func nearest(s string, from int, signs ...string) int {
	place := len(s)
	for _, sign := range signs {
		if n := strings.Index(s[from:], sign); n >= 0 {
			place = min(place, from+n)
		}
	}
	return place
}

// askedPiece is the tokens of what begins at start, and the place behind it.
func askedPiece(s string, start int) (answer, int) {
	switch nearest(s, start, "<", "{{") {
	case start:
		if s[start] == '<' {
			return askedTag(s, start)
		}
		behind := nearest(s, start+2, "}}")
		if behind == len(s) {
			return failed(start, api.ErrLexBrace), 0
		}
		return answer{tokens: []api.Token{token(api.TokExpr, "", s[start+2:behind], start)}}, behind + 2
	}
	behind := nearest(s, start, "<", "{{")
	if bad := askedSaid(s, start, behind, start, false); bad.code != api.OK {
		return bad, 0
	}
	said, _ := askedPlain(s[start:behind])
	return answer{tokens: []api.Token{token(api.TokText, "", said, start)}}, behind
}

// askedWrong is the place of the first byte that is not valid, or -1.
func askedWrong(s string) int {
	for at := 0; at < len(s); {
		r, size := utf8.DecodeRuneInString(s[at:])
		if r == utf8.RuneError && size == 1 {
			return at
		}
		at += size
	}
	return -1
}

func askedLex(s string) answer {
	if len(s) > 65536 {
		return failed(0, api.ErrLexLong)
	}
	if at := askedWrong(s); at >= 0 {
		return failed(at, api.ErrLexUtf)
	}
	var all []api.Token
	for at := 0; at < len(s); {
		piece, behind := askedPiece(s, at)
		if piece.code != api.OK {
			return piece
		}
		all, at = append(all, piece.tokens...), behind
	}
	return answer{tokens: all}
}

// maker makes random templates.
type maker struct{ *rand.Rand }

func (m maker) pick(those ...string) string { return those[m.Intn(len(those))] }

func (m maker) name() string {
	return m.pick("p", "a", "b", "br", "x-1", "h1", "a-", "a--9", "if", "z0", strings.Repeat("n", 32))
}

func (m maker) blank() string { return m.pick("", "", "", " ", "\n", "\t", "\r", " \t\r\n ") }

// said is a text with one of the ways in which it is written; none of never stands in what is written.
func (m maker) said(never string) (said, written string) {
	for n := m.Intn(6); n > 0; n-- {
		one := m.pick("a", "b c", "é", "€", "😀", "\ufffd", "\x00", "\n", "}", "}}", ">", "=", ":", "'", "/", ";", "amp;", "&", "<", ">", "{", `"`)
		way := one
		if i := strings.Index(`&<>{"`, one); i >= 0 && (one == "&" || strings.Contains(never, one) || m.Intn(2) == 0) {
			way = []string{"&amp;", "&lt;", "&gt;", "&lbrace;", "&quot;"}[i]
		}
		said, written = said+one, written+way
	}
	return said, written
}

// piece is the text of a piece with its tokens, whose places are those in the piece; a plain text may be empty.
func (m maker) piece() (string, []api.Token) {
	switch m.Intn(5) {
	case 0:
		between := m.pick("", " ", "a", " b + 1 ", "{", "{{", "}", "} }", "<p>", "&", "&b;", `"`, "'}'", "é\n", "&amp;")
		between = strings.TrimSuffix(between, "}")
		return "{{" + between + "}}", []api.Token{token(api.TokExpr, "", between, 0)}
	case 1:
		name := m.name()
		return "</" + name + m.blank() + ">", []api.Token{token(api.TokClose, name, "", 0)}
	case 2:
		said, written := m.said("<{")
		return written, []api.Token{token(api.TokText, "", said, 0)}
	}
	return m.openingTag()
}

func (m maker) openingTag() (string, []api.Token) {
	name := m.name()
	s, ts := "<"+name, []api.Token{token(api.TokOpen, name, "", 0)}
	for n := m.Intn(4); n > 0; n-- {
		name := m.name()
		said, written := m.said(`"`)
		s += m.blank() + m.pick(" ", "\t", "\n", "\r")
		if m.Intn(2) == 0 {
			ts = append(ts, token(api.TokAttr, name, said, len(s)))
		} else {
			ts = append(ts, token(api.TokBound, name, said, len(s)))
			s += ":"
		}
		s += name + `="` + written + `"`
	}
	s += m.blank()
	if m.Intn(2) == 0 {
		return s + ">", append(ts, token(api.TokEnd, "", "", len(s)))
	}
	return s + "/>", append(ts, token(api.TokSelf, "", "", len(s)))
}

// template is a row of up to n pieces with their tokens; no plain text stands beside another.
func (m maker) template(n int) (string, []api.Token) {
	s, ts := "", []api.Token(nil)
	for range n {
		piece, more := m.piece()
		beside := len(ts) > 0 && ts[len(ts)-1].Kind == api.TokText
		if piece == "" || beside && more[0].Kind == api.TokText {
			continue
		}
		s, ts = s+piece, append(ts, moved(more, len(s))...)
	}
	return s, ts
}

// moved is tokens whose places lie by so many bytes further on.
func moved(ts []api.Token, by int) []api.Token {
	out := append([]api.Token(nil), ts...)
	for i := range out {
		out[i].At += by
	}
	return out
}

// spoilt is s with one change somewhere.
func (m maker) spoilt(s string) string {
	at := m.Intn(len(s) + 1)
	behind := min(len(s), at+m.Intn(4))
	switch m.Intn(5) {
	case 0:
		return s[:at]
	case 1:
		return s[:at] + s[behind:]
	case 2:
		return s[:at] + s[at:behind] + s[at:]
	case 3:
		return s[:at] + string([]byte{byte(m.Intn(256))}) + s[behind:]
	}
	return s[:at] + m.pick("<", ">", "/", "</", "/>", "{", "{{", "}}", "}", `"`, "=", ":", " ", "&", "&amp;", "&lt", ";", "a", "A", "-", "1", "_", "é", "<!--", ` a=""`, ` :a="`, strings.Repeat("n", 33)) + s[behind:]
}
