package lex

import (
	"fmt"
	"math/rand"
	"regexp"
	"slices"
	"strings"
	"testing"

	"stencil/api"
	"stencil/html"
)

// cut is a text that may be long, for a message.
func cut(s string) string {
	if len(s) > 120 {
		return fmt.Sprintf("%q .. %q (%d bytes)", s[:60], s[len(s)-40:], len(s))
	}
	return fmt.Sprintf("%q", s)
}

func told(a answer) string {
	s := fmt.Sprintf("%+v", a.tokens)
	if len(s) > 400 {
		s = s[:300] + " .. " + s[len(s)-90:]
	}
	return fmt.Sprintf("%s, %d, %d", s, a.at, a.code)
}

func expect(t *testing.T, s string, want answer) {
	t.Helper()
	ts, at, code := Lex(s)
	if !slices.Equal(ts, want.tokens) || at != want.at || code != want.code {
		t.Errorf("%s: %s, want %s", cut(s), told(answer{ts, at, code}), told(want))
	}
}

func expectTokens(t *testing.T, s string, want ...api.Token) {
	t.Helper()
	expect(t, s, answer{tokens: want})
}

func expectFault(t *testing.T, s string, code api.Errno, at int) {
	t.Helper()
	expect(t, s, failed(at, code))
}

// expectAsked holds Lex of s against the second way, and answers what that told.
func expectAsked(t *testing.T, s string) api.Errno {
	t.Helper()
	want := askedLex(s)
	expect(t, s, want)
	return want.code
}

// faulty is a text with the error and the place that the document asks for.
type faulty struct {
	s    string
	code api.Errno
	at   int
}

func expectFaults(t *testing.T, rows []faulty) {
	t.Helper()
	for _, r := range rows {
		expectFault(t, r.s, r.code, r.at)
		if asked := askedLex(r.s); asked.code != r.code || asked.at != r.at {
			t.Errorf("%s: %s was asked for", cut(r.s), told(asked))
		}
	}
}

func x(n int) string { return strings.Repeat("x", n) }

func TestP12_1Rows(t *testing.T) {
	expectFault(t, `<p a="1" :b='x'>`, api.ErrLexTag, 12)
	expectTokens(t, `a{{ b }}<br/>`, token(api.TokText, "", "a", 0), token(api.TokExpr, "", " b ", 1), token(api.TokOpen, "br", "", 8), token(api.TokSelf, "", "", 11))
	expectTokens(t, `</p >`, token(api.TokClose, "p", "", 0))
	expectTokens(t, `a{b}`, token(api.TokText, "", "a{b}", 0))
	expectTokens(t, "")
	expectFaults(t, []faulty{{`< p>`, api.ErrLexTag, 1}, {`<p`, api.ErrLexTag, 2}, {`<p a>`, api.ErrLexTag, 4}, {`{{a}`, api.ErrLexBrace, 0}, {`a&b`, api.ErrLexEntity, 1}, {`<p a="x>`, api.ErrLexAttr, 5}})
}

// TestP12_1PlainText: each of these is one text, which stands for itself, alone and beside what ends it.
func TestP12_1PlainText(t *testing.T) {
	for _, s := range []string{
		"a", "ab c", " ", "\n", "\t\r\n ", "{", "}", "}}", "}}}}", "{}", "a{b}", "{a", "a{", "{ {", "{ { }}", "a{b{c{", "}{", "}}{", "{a}}", "{|{",
		">", "/>", "a>b", "/", "=", ":", `"`, `""`, `a="b"`, ` :a="b"`, "'", ";", "amp;", "lt;", "-->", "!", "p", "P", "é", "€uro", "😀", "\ufffd", "\u00a0", "\x00", "\x7f", "\x01\x1f", "x\x00y",
	} {
		one := token(api.TokText, "", s, 0)
		expectTokens(t, s, one)
		expectTokens(t, s+"<b>", one, token(api.TokOpen, "b", "", len(s)), token(api.TokEnd, "", "", len(s)+2))
		expectTokens(t, s+"</b>", one, token(api.TokClose, "b", "", len(s)))
		expectTokens(t, "<b>"+s, token(api.TokOpen, "b", "", 0), token(api.TokEnd, "", "", 2), token(api.TokText, "", s, 3))
		expectTokens(t, "{{e}}"+s, token(api.TokExpr, "", "e", 0), token(api.TokText, "", s, 5))
		if !strings.HasSuffix(s, "{") {
			expectTokens(t, s+"{{e}}", one, token(api.TokExpr, "", "e", len(s)))
		}
	}
}

func TestP12_1Interpolations(t *testing.T) {
	for _, between := range []string{
		"", " ", "a", " a ", "\n\t", "{", "{{", "{a", "{{{", "{ {", "}a", "} } ", "a}b", " {} ", "<", "<p>", "</p>", "&", "&b", "&amp;", "&lt;", `"`, `'a'`, "é€😀", "\x00", ":", "a == b ? 1 : 2", x(5000), strings.Repeat("<{&", 4000),
	} {
		s := "{{" + between + "}}"
		one := token(api.TokExpr, "", between, 0)
		expectTokens(t, s, one)
		expectTokens(t, s+s, one, token(api.TokExpr, "", between, len(s)))
		expectTokens(t, s+"}", one, token(api.TokText, "", "}", len(s)))
		expectTokens(t, s+"}}", one, token(api.TokText, "", "}}", len(s)))
		expectTokens(t, s+"{", one, token(api.TokText, "", "{", len(s)))
		expectTokens(t, "a"+s+"b", token(api.TokText, "", "a", 0), token(api.TokExpr, "", between, 1), token(api.TokText, "", "b", 1+len(s)))
		expectTokens(t, "<p/>"+s+"</p>", token(api.TokOpen, "p", "", 0), token(api.TokSelf, "", "", 2), token(api.TokExpr, "", between, 4), token(api.TokClose, "p", "", 4+len(s)))
	}
	// A third `{` is the first byte between, and the first `}}` ends, be it in quotes or not.
	expectTokens(t, "a{{{b}}}", token(api.TokText, "", "a", 0), token(api.TokExpr, "", "{b", 1), token(api.TokText, "", "}", 7))
	expectTokens(t, "{{'}}'}}", token(api.TokExpr, "", "'", 0), token(api.TokText, "", "'}}", 5))
	expectTokens(t, "{{a}}}}", token(api.TokExpr, "", "a", 0), token(api.TokText, "", "}}", 5))
}

func TestP12_1OpeningTags(t *testing.T) {
	open := token(api.TokOpen, "p", "", 0)
	for _, c := range []struct {
		s    string
		want []api.Token
	}{
		{"", nil},
		{` a=""`, []api.Token{token(api.TokAttr, "a", "", 3)}},
		{` a="1"`, []api.Token{token(api.TokAttr, "a", "1", 3)}},
		{` :a=""`, []api.Token{token(api.TokBound, "a", "", 3)}},
		{` :a="b + 1"`, []api.Token{token(api.TokBound, "a", "b + 1", 3)}},
		{` a="1" b="2"`, []api.Token{token(api.TokAttr, "a", "1", 3), token(api.TokAttr, "b", "2", 9)}},
		{` a="1" :a="2" a="3"`, []api.Token{token(api.TokAttr, "a", "1", 3), token(api.TokBound, "a", "2", 9), token(api.TokAttr, "a", "3", 16)}},
		{"\n:a=\"1\"\r\n\t  :b-2=\"2\"", []api.Token{token(api.TokBound, "a", "1", 3), token(api.TokBound, "b-2", "2", 14)}},
		{` p="p" :p="p"`, []api.Token{token(api.TokAttr, "p", "p", 3), token(api.TokBound, "p", "p", 9)}},
		{` a="<b c='d'>/></b>"`, []api.Token{token(api.TokAttr, "a", "<b c='d'>/></b>", 3)}},
		{` a="{{b}}" :c="{{"`, []api.Token{token(api.TokAttr, "a", "{{b}}", 3), token(api.TokBound, "c", "{{", 13)}},
		{" a=\" \n=:é\x00\" b=\"\t\"", []api.Token{token(api.TokAttr, "a", " \n=:é\x00", 3), token(api.TokAttr, "b", "\t", 15)}},
		{` a="&quot;" :b="&lt;&amp;lt;"`, []api.Token{token(api.TokAttr, "a", `"`, 3), token(api.TokBound, "b", "<&lt;", 14)}},
	} {
		for _, blank := range []string{"", " ", "\t", "\n", "\r", " \r\n\t "} {
			s := "<p" + c.s + blank
			ts := append([]api.Token{open}, c.want...)
			expectTokens(t, s+">", append(ts, token(api.TokEnd, "", "", len(s)))...)
			expectTokens(t, s+"/>", append(ts, token(api.TokSelf, "", "", len(s)))...)
			expectTokens(t, s+">>", append(ts, token(api.TokEnd, "", "", len(s)), token(api.TokText, "", ">", len(s)+1))...)
		}
	}
}

func TestP12_1ClosingTags(t *testing.T) {
	for _, name := range []string{"p", "a-1", "z9", "h1", "x-", strings.Repeat("n", 32)} {
		for _, blank := range []string{"", " ", "\t", "\n", "\r", "  \r\n\t"} {
			s := "</" + name + blank + ">"
			expectTokens(t, s, token(api.TokClose, name, "", 0))
			expectTokens(t, s+s, token(api.TokClose, name, "", 0), token(api.TokClose, name, "", len(s)))
			expectTokens(t, "a"+s+"b", token(api.TokText, "", "a", 0), token(api.TokClose, name, "", 1), token(api.TokText, "", "b", 1+len(s)))
		}
	}
}

// TestP12_1Names asks every byte of a name, in each of the places of names.
func TestP12_1Names(t *testing.T) {
	for i := range len(nameBytes) {
		for _, name := range []string{nameBytes[i : i+1], "a" + nameBytes[i:i+1], "b" + nameBytes[i:i+1] + "0"} {
			if first := name[0]; first < 'a' || first > 'z' {
				expectFaults(t, []faulty{{"<" + name + ">", api.ErrLexTag, 1}, {"</" + name + ">", api.ErrLexTag, 2}, {"<p " + name + `="">`, api.ErrLexTag, 3}, {"<p :" + name + `="">`, api.ErrLexTag, 4}})
				continue
			}
			expectTokens(t, "<"+name+">", token(api.TokOpen, name, "", 0), token(api.TokEnd, "", "", 1+len(name)))
			expectTokens(t, "</"+name+">", token(api.TokClose, name, "", 0))
			expectTokens(t, "<p "+name+`="">`, token(api.TokOpen, "p", "", 0), token(api.TokAttr, name, "", 3), token(api.TokEnd, "", "", 6+len(name)))
			expectTokens(t, "<p :"+name+`="">`, token(api.TokOpen, "p", "", 0), token(api.TokBound, name, "", 3), token(api.TokEnd, "", "", 7+len(name)))
		}
	}
}

// TestP12_1Beside lays pieces of every kind side by side, each three of them: each keeps its tokens.
func TestP12_1Beside(t *testing.T) {
	pieces := []struct {
		s  string
		ts []api.Token
	}{
		{"a", []api.Token{token(api.TokText, "", "a", 0)}},
		{" &lt;}}", []api.Token{token(api.TokText, "", " <}}", 0)}},
		{"{x", []api.Token{token(api.TokText, "", "{x", 0)}},
		{"{{}}", []api.Token{token(api.TokExpr, "", "", 0)}},
		{"{{ <&} }}", []api.Token{token(api.TokExpr, "", " <&} ", 0)}},
		{"<p>", []api.Token{token(api.TokOpen, "p", "", 0), token(api.TokEnd, "", "", 2)}},
		{"<br />", []api.Token{token(api.TokOpen, "br", "", 0), token(api.TokSelf, "", "", 4)}},
		{`<b c=">">`, []api.Token{token(api.TokOpen, "b", "", 0), token(api.TokAttr, "c", ">", 3), token(api.TokEnd, "", "", 8)}},
		{`<b :c="</b>" d=""/>`, []api.Token{token(api.TokOpen, "b", "", 0), token(api.TokBound, "c", "</b>", 3), token(api.TokAttr, "d", "", 13), token(api.TokSelf, "", "", 17)}},
		{"</p>", []api.Token{token(api.TokClose, "p", "", 0)}},
		{"</br\n>", []api.Token{token(api.TokClose, "br", "", 0)}},
	}
	isText := func(ts []api.Token) bool { return ts[0].Kind == api.TokText }
	for _, a := range pieces {
		for _, b := range pieces {
			for _, c := range pieces {
				if isText(a.ts) && isText(b.ts) || isText(b.ts) && isText(c.ts) {
					continue
				}
				expectTokens(t, a.s+b.s+c.s, slices.Concat(a.ts, moved(b.ts, len(a.s)), moved(c.ts, len(a.s)+len(b.s)))...)
			}
		}
	}
	expectTokens(t, "a{x", token(api.TokText, "", "a{x", 0))
}

func TestP12_1Entities(t *testing.T) {
	for _, c := range [][2]string{
		{"&amp;", "&"}, {"&lt;", "<"}, {"&gt;", ">"}, {"&lbrace;", "{"}, {"&quot;", `"`},
		{"&amp;lt;", "&lt;"}, {"&amp;amp;", "&amp;"}, {"&lbrace;&lbrace;a} }", "{{a} }"}, {"{&lbrace;", "{{"}, {"&lbrace;{", "{{"},
		{"&lt;p a=&quot;&quot;&gt;", `<p a="">`}, {"a&lt;b&gt;c", "a<b>c"}, {"é&amp;é", "é&é"}, {"&gt;&gt;", ">>"}, {"&amp;&amp;", "&&"}, {"&lt;;", "<;"},
	} {
		s := c[0]
		expectTokens(t, s, token(api.TokText, "", c[1], 0))
		expectTokens(t, s+"<b/>", token(api.TokText, "", c[1], 0), token(api.TokOpen, "b", "", len(s)), token(api.TokSelf, "", "", len(s)+2))
		expectTokens(t, `<p a="`+s+`" :b="`+s+`">`, token(api.TokOpen, "p", "", 0), token(api.TokAttr, "a", c[1], 3), token(api.TokBound, "b", c[1], 8+len(s)), token(api.TokEnd, "", "", 13+2*len(s)))
		expectTokens(t, "{{"+s+" }}", token(api.TokExpr, "", s+" ", 0))
	}
}

// TestP12_1WrongEntities: the place is that of the `&`, whatever stands ahead of it and behind it.
func TestP12_1WrongEntities(t *testing.T) {
	for _, bad := range []string{"&", "&b", "&b;", "&;", "& ", "&&amp;", "&amp", "&am;", "&lt", "&LT;", "&Lt;", "&gt ;", "&quo;", "&lbrac;", "&lbraces;", "&#60;", "&#x3c;", "&nbsp;", "&apos;", "&rbrace;", "&é;", "&\x00", "&amp &amp;", "&=", "&'"} {
		for _, ahead := range []string{"", "a", "é", "&amp;", "&lt;&gt;", "{", "}}"} {
			for _, behind := range []string{"", "b", " &", "&amp;"} {
				s := ahead + bad + behind
				if behind == "&amp;" && bad == "&" {
					continue
				}
				expectFaults(t, []faulty{
					{s, api.ErrLexEntity, len(ahead)}, {s + "<p>", api.ErrLexEntity, len(ahead)}, {s + "{{x}}", api.ErrLexEntity, len(ahead)}, {"<p>" + s, api.ErrLexEntity, 3 + len(ahead)}, {"{{x}}" + s, api.ErrLexEntity, 5 + len(ahead)},
					{`<p a="` + s + `">`, api.ErrLexEntity, 6 + len(ahead)}, {`<p :a="` + s + `"/>`, api.ErrLexEntity, 7 + len(ahead)}, {`<p a="" b="` + s + `"`, api.ErrLexEntity, 11 + len(ahead)},
				})
			}
		}
	}
	// What ends the text ends the entity too.
	expectFaults(t, []faulty{{"&lt<b>", api.ErrLexEntity, 0}, {"&l{{x}}t;", api.ErrLexEntity, 0}, {"a&am<b/>p;", api.ErrLexEntity, 1}, {`<p a="&lt">`, api.ErrLexEntity, 6}, {`<p a="&l" b="t;">`, api.ErrLexEntity, 6}, {"&{{x}}", api.ErrLexEntity, 0}})
}

func TestP12_1Braces(t *testing.T) {
	expectFaults(t, []faulty{
		{"{{", api.ErrLexBrace, 0}, {"{{{", api.ErrLexBrace, 0}, {"{{{{", api.ErrLexBrace, 0}, {"{{}", api.ErrLexBrace, 0}, {"{{} }", api.ErrLexBrace, 0}, {"{{a", api.ErrLexBrace, 0}, {"{{<p>", api.ErrLexBrace, 0}, {"{{&", api.ErrLexBrace, 0},
		{"a{{", api.ErrLexBrace, 1}, {"a{{{", api.ErrLexBrace, 1}, {"a{ {{b}", api.ErrLexBrace, 3}, {"}}{{", api.ErrLexBrace, 2}, {"{{}}{{", api.ErrLexBrace, 4}, {"{{}}}{{", api.ErrLexBrace, 5}, {"{{a}}b{{c}", api.ErrLexBrace, 6}, {"é{{", api.ErrLexBrace, 2}, {"<p>{{</p>", api.ErrLexBrace, 3}, {`<p a="{{">{{`, api.ErrLexBrace, 10}, {`{{"}"`, api.ErrLexBrace, 0},
	})
}

func TestP12_1WrongTags(t *testing.T) {
	expectFaults(t, []faulty{
		{"<", api.ErrLexTag, 1}, {"<<", api.ErrLexTag, 1}, {"<>", api.ErrLexTag, 1}, {"< ", api.ErrLexTag, 1}, {"<\np>", api.ErrLexTag, 1}, {"<P>", api.ErrLexTag, 1}, {"<1>", api.ErrLexTag, 1}, {"<->", api.ErrLexTag, 1}, {"<_>", api.ErrLexTag, 1}, {"<é>", api.ErrLexTag, 1}, {"<!-- -->", api.ErrLexTag, 1}, {"<?xml?>", api.ErrLexTag, 1}, {"<{{a}}>", api.ErrLexTag, 1}, {"<:a>", api.ErrLexTag, 1}, {"<=", api.ErrLexTag, 1}, {"<\"", api.ErrLexTag, 1}, {"<&lt;", api.ErrLexTag, 1}, {"a < b", api.ErrLexTag, 3}, {"a<", api.ErrLexTag, 2},
		{"</", api.ErrLexTag, 2}, {"</>", api.ErrLexTag, 2}, {"</ p>", api.ErrLexTag, 2}, {"</P>", api.ErrLexTag, 2}, {"<//p>", api.ErrLexTag, 2}, {"</1", api.ErrLexTag, 2}, {"</p", api.ErrLexTag, 3}, {"</p ", api.ErrLexTag, 4}, {"</p/>", api.ErrLexTag, 3}, {"</p />", api.ErrLexTag, 4}, {"</p a>", api.ErrLexTag, 4}, {`</p a="">`, api.ErrLexTag, 4}, {"</p<", api.ErrLexTag, 3}, {"</p_>", api.ErrLexTag, 3}, {"</p:>", api.ErrLexTag, 3}, {"</p\v>", api.ErrLexTag, 3}, {"</p \f>", api.ErrLexTag, 4},
		{"<p", api.ErrLexTag, 2}, {"<p ", api.ErrLexTag, 3}, {"<p \n\t", api.ErrLexTag, 5}, {"<p<", api.ErrLexTag, 2}, {"<p <b>", api.ErrLexTag, 3}, {"<pP>", api.ErrLexTag, 2}, {"<p_>", api.ErrLexTag, 2}, {"<p.a>", api.ErrLexTag, 2}, {"<p=>", api.ErrLexTag, 2}, {"<p:a>", api.ErrLexTag, 2}, {"<p\"\">", api.ErrLexTag, 2}, {"<pé>", api.ErrLexTag, 2}, {"<p\u00a0>", api.ErrLexTag, 2}, {"<p\v>", api.ErrLexTag, 2}, {"<p\x00>", api.ErrLexTag, 2}, {"<p {{a}}>", api.ErrLexTag, 3}, {"<p =\"\">", api.ErrLexTag, 3}, {"<p \"\">", api.ErrLexTag, 3}, {"<p -a=\"\">", api.ErrLexTag, 3}, {"<p 1=\"\">", api.ErrLexTag, 3}, {"<p A=\"\">", api.ErrLexTag, 3}, {"<p _=\"\">", api.ErrLexTag, 3}, {"<p @a=\"\">", api.ErrLexTag, 3}, {"<p &amp;>", api.ErrLexTag, 3},
		{"<p/", api.ErrLexTag, 3}, {"<p/ >", api.ErrLexTag, 3}, {"<p//>", api.ErrLexTag, 3}, {"<p /", api.ErrLexTag, 4}, {"<p / >", api.ErrLexTag, 4}, {"<p/a=\"\">", api.ErrLexTag, 3}, {"<p/<", api.ErrLexTag, 3},
		{"<p a", api.ErrLexTag, 4}, {"<p a>", api.ErrLexTag, 4}, {"<p a/>", api.ErrLexTag, 4}, {"<p a =\"\">", api.ErrLexTag, 4}, {"<p aB=\"\">", api.ErrLexTag, 4}, {"<p a_b=\"\">", api.ErrLexTag, 4}, {"<p a:b=\"\">", api.ErrLexTag, 4}, {"<p a.b=\"\">", api.ErrLexTag, 4}, {"<p a\"\">", api.ErrLexTag, 4}, {"<p a b=\"\">", api.ErrLexTag, 4},
		{"<p a=", api.ErrLexTag, 5}, {"<p a=>", api.ErrLexTag, 5}, {"<p a= \"\">", api.ErrLexTag, 5}, {"<p a='x'>", api.ErrLexTag, 5}, {"<p a=x>", api.ErrLexTag, 5}, {"<p a==\"\">", api.ErrLexTag, 5}, {"<p a=&quot;&quot;>", api.ErrLexTag, 5},
		{"<p :", api.ErrLexTag, 4}, {"<p :>", api.ErrLexTag, 4}, {"<p : a=\"\">", api.ErrLexTag, 4}, {"<p ::a=\"\">", api.ErrLexTag, 4}, {"<p :=\"\">", api.ErrLexTag, 4}, {"<p :A=\"\">", api.ErrLexTag, 4}, {"<p :1=\"\">", api.ErrLexTag, 4}, {"<p :a", api.ErrLexTag, 5}, {"<p :a>", api.ErrLexTag, 5}, {"<p :a =\"\">", api.ErrLexTag, 5}, {"<p :a=", api.ErrLexTag, 6}, {"<p :a=x>", api.ErrLexTag, 6},
		{`<p a=""`, api.ErrLexTag, 7}, {`<p a="" `, api.ErrLexTag, 8}, {`<p a=""b="">`, api.ErrLexTag, 7}, {`<p a="":b="">`, api.ErrLexTag, 7}, {`<p a="""">`, api.ErrLexTag, 7}, {`<p a=""<b>`, api.ErrLexTag, 7}, {`<p a=""=`, api.ErrLexTag, 7}, {`<p a=""/`, api.ErrLexTag, 8}, {`<p a="" /`, api.ErrLexTag, 9}, {`<p a=""é>`, api.ErrLexTag, 7}, {`<p a="" b`, api.ErrLexTag, 9}, {`<p :a="" :b=""c`, api.ErrLexTag, 14},
	})
}

func TestP12_1WrongAttributes(t *testing.T) {
	expectFaults(t, []faulty{
		{`<p a="`, api.ErrLexAttr, 5}, {`<p a="x`, api.ErrLexAttr, 5}, {`<p a="x>`, api.ErrLexAttr, 5}, {`<p a="x/></p>`, api.ErrLexAttr, 5}, {`<p a="x'>`, api.ErrLexAttr, 5}, {`<p a="&quot;>`, api.ErrLexAttr, 5}, {`<p a="{{`, api.ErrLexAttr, 5}, {"<p a=\"\n", api.ErrLexAttr, 5},
		{`<p :a="`, api.ErrLexAttr, 6}, {`<p :a="x>`, api.ErrLexAttr, 6}, {`<p a="1" b="2>`, api.ErrLexAttr, 11}, {`<p a="1" :b="2`, api.ErrLexAttr, 12}, {`a<p abc="`, api.ErrLexAttr, 8}, {`<p a=""/><p b="`, api.ErrLexAttr, 14}, {`é<p a="`, api.ErrLexAttr, 7},
	})
}

// TestP12_1EveryByte puts every byte into every place of a template, and in the place of every byte.
func TestP12_1EveryByte(t *testing.T) {
	codes := map[api.Errno]int{}
	for _, s := range []string{`a<p a="1" :b-2="x" />{{ y }}</p >z`, "é{{}}<br\n/></br>}&lt;", `<a><b c="">`, `{ {{a}b}} </x-1	>`} {
		for at := range len(s) + 1 {
			for c := range 256 {
				one := string([]byte{byte(c)})
				codes[expectAsked(t, s[:at]+one+s[at:])]++
				codes[expectAsked(t, s[:at]+one)]++
				if at < len(s) {
					codes[expectAsked(t, s[:at]+one+s[at+1:])]++
				}
			}
			codes[expectAsked(t, s[:at])]++
			codes[expectAsked(t, s[at:])]++
		}
	}
	for _, code := range []api.Errno{api.OK, api.ErrLexUtf, api.ErrLexTag, api.ErrLexAttr, api.ErrLexEntity, api.ErrLexBrace} {
		if codes[code] < 50 {
			t.Errorf("the answers are too much alike: %v", codes)
		}
	}
}

func TestP12_1LongTemplates(t *testing.T) {
	whole := "{{" + x(api.MaxTemplate-4) + "}}"
	expectTokens(t, whole, token(api.TokExpr, "", x(api.MaxTemplate-4), 0))
	expectFault(t, whole+"a", api.ErrLexLong, 0)
	expectFault(t, whole+"{{}}", api.ErrLexLong, 0)
	expectFault(t, "a"+whole, api.ErrLexLong, 0)

	bound := `<p :a="` + x(api.MaxTemplate-9) + `">`
	expectTokens(t, bound, token(api.TokOpen, "p", "", 0), token(api.TokBound, "a", x(api.MaxTemplate-9), 3), token(api.TokEnd, "", "", api.MaxTemplate-1))
	expectFault(t, bound+"\n", api.ErrLexLong, 0)

	blank := "<p" + strings.Repeat(" ", api.MaxTemplate-3) + ">"
	expectTokens(t, blank, token(api.TokOpen, "p", "", 0), token(api.TokEnd, "", "", api.MaxTemplate-1))
	expectFault(t, strings.Repeat("<p>", api.MaxTemplate/3)+"<p", api.ErrLexLong, 0)
	expectFault(t, strings.Repeat("<p>", api.MaxTemplate/3)+"<", api.ErrLexTag, api.MaxTemplate)
	expectFault(t, x(api.MaxTemplate+1), api.ErrLexLong, 0)
	expectFault(t, x(1<<20), api.ErrLexLong, 0)
}

func TestP12_1LongNames(t *testing.T) {
	for _, n := range []int{1, 2, 31, 32} {
		name := strings.Repeat("n", n)
		expectTokens(t, "<"+name+"/>", token(api.TokOpen, name, "", 0), token(api.TokSelf, "", "", 1+n))
		expectTokens(t, "</"+name+">", token(api.TokClose, name, "", 0))
		expectTokens(t, "<p "+name+`="">`, token(api.TokOpen, "p", "", 0), token(api.TokAttr, name, "", 3), token(api.TokEnd, "", "", 6+n))
		expectTokens(t, "<p :"+name+`="">`, token(api.TokOpen, "p", "", 0), token(api.TokBound, name, "", 3), token(api.TokEnd, "", "", 7+n))
	}
	for _, n := range []int{33, 34, 64, 5000} {
		for _, name := range []string{strings.Repeat("n", n), "a" + strings.Repeat("-1", n/2) + "z"} {
			for _, behind := range []string{"", ">", "/>", ` a="">`, `="">`, "_", "é", "<", "&"} {
				expectFaults(t, []faulty{{"<" + name + behind, api.ErrLexTag, 1}, {"</" + name + behind, api.ErrLexTag, 2}, {"<p " + name + behind, api.ErrLexTag, 3}, {"<p :" + name + behind, api.ErrLexTag, 4}, {`a<p b="" ` + name + behind, api.ErrLexTag, 9}})
			}
		}
	}
}

// TestP12_1LongTexts: it counts what a text stands for, not how it is written.
func TestP12_1LongTexts(t *testing.T) {
	for _, c := range []struct {
		said, written, more string
	}{
		{x(4096), x(4096), "x"},
		{x(4096), x(4096), "&lt;"},
		{strings.Repeat("<", 4096), strings.Repeat("&lt;", 4096), "x"},
		{strings.Repeat("{", 4096), strings.Repeat("&lbrace;", 4096), "&amp;"},
		{strings.Repeat("é", 2048), strings.Repeat("é", 2048), "x"},
		{strings.Repeat("😀", 1023) + `&"xy`, strings.Repeat("😀", 1023) + "&amp;&quot;xy", "é"},
	} {
		n := len(c.written)
		expectTokens(t, c.written, token(api.TokText, "", c.said, 0))
		expectTokens(t, "<p/>"+c.written+"{{}}", token(api.TokOpen, "p", "", 0), token(api.TokSelf, "", "", 2), token(api.TokText, "", c.said, 4), token(api.TokExpr, "", "", 4+n))
		expectTokens(t, `<p a="`+c.written+`">`, token(api.TokOpen, "p", "", 0), token(api.TokAttr, "a", c.said, 3), token(api.TokEnd, "", "", 7+n))

		long := c.written + c.more
		expectFaults(t, []faulty{
			{long, api.ErrLexLong, 0}, {c.more + c.written, api.ErrLexLong, 0}, {"<p/>" + long, api.ErrLexLong, 4}, {"{{}}" + long + "{{}}", api.ErrLexLong, 4}, {"a{{}}" + long + "</p>", api.ErrLexLong, 5},
			{`<p a="` + long + `">`, api.ErrLexLong, 5}, {`<p :b="" abc="` + long + `"/>`, api.ErrLexLong, 13}, {"é<p\n a=\"" + long + `"`, api.ErrLexLong, 8},
		})
		said, _ := askedPlain(long)
		expectTokens(t, `<p :a="`+long+`">`, token(api.TokOpen, "p", "", 0), token(api.TokBound, "a", said, 3), token(api.TokEnd, "", "", 8+len(long)))
		expectTokens(t, "{{"+long+"}}", token(api.TokExpr, "", long, 0))
	}
	// The bound is each text's own.
	expectTokens(t, x(4096)+"{{}}"+x(4096)+"</p>"+x(4096), token(api.TokText, "", x(4096), 0), token(api.TokExpr, "", "", 4096), token(api.TokText, "", x(4096), 4100), token(api.TokClose, "p", "", 8196), token(api.TokText, "", x(4096), 8200))
}

// TestP12_1Utf: a byte that is not valid is told ahead of all faults but the template's length.
func TestP12_1Utf(t *testing.T) {
	for _, bad := range []string{"\xff", "\x80", "\xc3", "\xc0\x80", "\xed\xa0\x80", "\xf4\x90\x80\x80", "\xe2\x82", "\xf0\x9f\x98"} {
		for _, ahead := range []string{"", "a", "é", "{{", "<", "<p ", `<p a="`, "&", "<p>", "{{a}}", x(5000), "<" + strings.Repeat("n", 33)} {
			expectFaults(t, []faulty{{ahead + bad, api.ErrLexUtf, len(ahead)}, {ahead + bad + "<", api.ErrLexUtf, len(ahead)}, {ahead + bad + "&\xff}}\">", api.ErrLexUtf, len(ahead)}})
		}
		expectFault(t, x(api.MaxTemplate)+bad, api.ErrLexLong, 0)
		expectFault(t, bad+x(api.MaxTemplate), api.ErrLexLong, 0)
		expectFault(t, x(api.MaxTemplate-len(bad))+bad, api.ErrLexUtf, api.MaxTemplate-len(bad))
	}
}

// TestP12_1FirstFault: of several faults the first from the left; of one text the one that is named first.
func TestP12_1FirstFault(t *testing.T) {
	expectFaults(t, []faulty{
		{`<p a="x&`, api.ErrLexAttr, 5}, {`<p a="&b;>`, api.ErrLexAttr, 5}, {`<p :a="&`, api.ErrLexAttr, 6}, {`<p a="` + x(4097), api.ErrLexAttr, 5}, {`<p a="` + x(4097) + "&", api.ErrLexAttr, 5},
		{x(4097) + "&", api.ErrLexEntity, 4097}, {"&" + x(4097), api.ErrLexEntity, 0}, {`<p a="` + x(4097) + `&">`, api.ErrLexEntity, 4103}, {`<p a="&` + x(4097) + `">`, api.ErrLexEntity, 6}, {`<p :a="` + x(4097) + `&">`, api.ErrLexEntity, 4104}, {x(4097) + "&amp;&", api.ErrLexEntity, 4102},
		{x(4097) + "<", api.ErrLexLong, 0}, {x(4097) + "<p&", api.ErrLexLong, 0}, {x(4097) + "{{", api.ErrLexLong, 0}, {x(4097) + "{{}}&", api.ErrLexLong, 0}, {`<p a="` + x(4097) + `"b`, api.ErrLexLong, 5}, {`<p a="` + x(4097) + `" b="&">`, api.ErrLexLong, 5}, {`<p a="` + x(4097) + `" b="`, api.ErrLexLong, 5},
		{"{{<p>&", api.ErrLexBrace, 0}, {"&{{", api.ErrLexEntity, 0}, {"a&<", api.ErrLexEntity, 1}, {"<&", api.ErrLexTag, 1}, {"<p>&{{", api.ErrLexEntity, 3}, {"<p{{", api.ErrLexTag, 2}, {`<p a="&"b`, api.ErrLexEntity, 6}, {`<p a="&" b=">`, api.ErrLexEntity, 6}, {`<p a=x b="&">`, api.ErrLexTag, 5}, {`<p a=x b="`, api.ErrLexTag, 5}, {"<p a b=\"", api.ErrLexTag, 4}, {"<p/{{", api.ErrLexTag, 3}, {"</p{{&", api.ErrLexTag, 3},
		{`<P a="`, api.ErrLexTag, 1}, {`<p A="`, api.ErrLexTag, 3}, {`<p a "`, api.ErrLexTag, 4}, {`<p "`, api.ErrLexTag, 3}, {`<p a=&"`, api.ErrLexTag, 5}, {"</P &", api.ErrLexTag, 2}, {"</p &", api.ErrLexTag, 4}, {`</p "`, api.ErrLexTag, 4},
	})
}

// shortTexts hands every text of up to n pieces to the loop.
func shortTexts(n int, pieces ...string) func(yield func(string) bool) {
	return func(yield func(string) bool) {
		texts := []string{""}
		for range n + 1 {
			var longer []string
			for _, s := range texts {
				if !yield(s) {
					return
				}
				for _, piece := range pieces {
					longer = append(longer, s+piece)
				}
			}
			texts = longer
		}
	}
}

func TestP12_1EveryShortText(t *testing.T) {
	for s := range shortTexts(5, "<", ">", "/", "p", " ", "{", "}", "&", "=", `"`, ":") {
		if expectAsked(t, s); t.Failed() {
			return
		}
	}
	for s := range shortTexts(5, "<", "{{", "}}", "{", "}", "&lt;", "&", "é", "a") {
		if expectAsked(t, s); t.Failed() {
			return
		}
	}
}

func TestP12_1EveryShortTag(t *testing.T) {
	for s := range shortTexts(6, ` `, `a`, `:`, `=`, `"`, `/`, `>`, `-`) {
		expectAsked(t, "</"+s)
		if expectAsked(t, "<p"+s); t.Failed() {
			return
		}
	}
	for s := range shortTexts(5, ` `, `a="`, `"`, `:b="&gt;"`, `a=""`, "/>", ">", "&", "<p", "</p") {
		if expectAsked(t, "<p "+s); t.Failed() {
			return
		}
	}
}

// TestP12_1Made makes templates from their tokens, then spoils them.
func TestP12_1Made(t *testing.T) {
	m := maker{rand.New(rand.NewSource(121))}
	codes := map[api.Errno]int{}
	for range 40000 {
		s, want := m.template(1 + m.Intn(8))
		expectTokens(t, s, want...)
		codes[expectAsked(t, s)]++
		bad := m.spoilt(s)
		codes[expectAsked(t, bad)]++
		codes[expectAsked(t, m.spoilt(bad))]++
		if t.Failed() {
			return
		}
	}
	if len(codes) != 6 || codes[api.OK] < 40000 || min(codes[api.ErrLexUtf], codes[api.ErrLexTag], codes[api.ErrLexAttr], codes[api.ErrLexEntity], codes[api.ErrLexBrace]) < 500 {
		t.Errorf("the answers are too much alike: %v", codes)
	}
}

// covered is what a token of a kind is written as, from its place up to the next token's.
var covered = map[int]*regexp.Regexp{
	api.TokText:  regexp.MustCompile(`^()([^<]+)$`),
	api.TokExpr:  regexp.MustCompile(`^{{()((?s:.*))}}$`),
	api.TokOpen:  regexp.MustCompile(`^<([a-z][a-z0-9-]*)()[ \t\n\r]*$`),
	api.TokAttr:  regexp.MustCompile(`^([a-z][a-z0-9-]*)="([^"]*)"[ \t\n\r]*$`),
	api.TokBound: regexp.MustCompile(`^:([a-z][a-z0-9-]*)="([^"]*)"[ \t\n\r]*$`),
	api.TokEnd:   regexp.MustCompile(`^()()>$`),
	api.TokSelf:  regexp.MustCompile(`^()()/>$`),
	api.TokClose: regexp.MustCompile(`^</([a-z][a-z0-9-]*)()[ \t\n\r]*>$`),
}

// expectCovered asks P12.2 of a template that is taken: each of its bytes is one token's.
func expectCovered(t *testing.T, s string) {
	t.Helper()
	ts, at, code := Lex(s)
	if code != api.OK {
		t.Fatalf("%s: %d at %d", cut(s), code, at)
	}
	if len(ts) == 0 && s != "" || len(ts) > 0 && ts[0].At != 0 {
		t.Fatalf("%s: %+v do not begin at 0", cut(s), ts)
	}
	for i, one := range ts {
		behind := len(s)
		if i+1 < len(ts) {
			behind = ts[i+1].At
		}
		if behind <= one.At || behind > len(s) {
			t.Fatalf("%s: %+v do not rise at %d", cut(s), ts, i)
		}
		said := covered[one.Kind].FindStringSubmatch(s[one.At:behind])
		if said == nil || said[1] != one.Name {
			t.Fatalf("%s: %+v does not cover %q", cut(s), one, s[one.At:behind])
		}
		text := said[2]
		if one.Kind != api.TokExpr {
			text, _, code = html.Plain(text)
		}
		if code != api.OK || text != one.Text {
			t.Fatalf("%s: %+v does not say %q", cut(s), one, s[one.At:behind])
		}
	}
}

func TestP12_2Covers(t *testing.T) {
	for _, s := range []string{"", "a", "{", "}}", "{{}}", "<p>", "<p/>", "</p>", "<p \n/>", `<p a="" >`, "<p\t:a=\"x\"\r\nb=\"&lt;\"\n>", "</p\n>", "a{{b}}c<d>e</f>", "<a><b><c/>", "&lt;", "{{a}}}}", "é<é-"[:3] + "p>é"} {
		expectCovered(t, s)
	}
	m := maker{rand.New(rand.NewSource(122))}
	taken := 0
	for range 20000 {
		s, _ := m.template(m.Intn(9))
		expectCovered(t, s)
		if bad := m.spoilt(s); askedLex(bad).code == api.OK {
			expectCovered(t, bad)
			taken++
		}
	}
	if taken < 2000 {
		t.Errorf("only %d spoilt templates were taken", taken)
	}
}

func TestP12_2CoversShortTexts(t *testing.T) {
	for s := range shortTexts(5, "<p", ">", "/>", "</p", " ", "{", "}}", "a", ` a=""`, "{{") {
		if _, _, code := Lex(s); code == api.OK {
			expectCovered(t, s)
		}
	}
}
