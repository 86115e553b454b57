package html

import (
	"math/rand"
	"strings"
	"sync"
	"testing"

	"stencil/api"
)

// pairs are the five bytes with what is written for them, as P4.1 and P4.2 name them.
var pairs = [5][2]string{{"&", "&amp;"}, {"<", "&lt;"}, {">", "&gt;"}, {"{", "&lbrace;"}, {`"`, "&quot;"}}

// wrong are texts whose first byte is a `&` that begins none of the five, whatever stands behind them.
var wrong = []string{
	"& amp;", "&;", "&&", "&a;", "&b;", "&am;", "&amp ;", "&amp:", "&ampp;", "&aamp;", "&amp\x00;", "&amp&",
	"&l;", "&ltt;", "&l t;", "&lt ", "&g;", "&gtt;", "&gt,", "&quo;", "&quott;", "&quot\"",
	"&lbrac;", "&lbraces;", "&lbrace{", "&brace;", "&lbracE;", "&lbrac&",
	"&Amp;", "&AMP;", "&aMp;", "&amP;", "&Lt;", "&LT;", "&lT;", "&Gt;", "&GT;", "&gT;", "&Quot;", "&QUOT;", "&quoT;", "&Lbrace;", "&LBRACE;", "&lBrace;",
	"&apos;", "&nbsp;", "&rbrace;", "&lcub;", "&lbrack;", "&rcub;", "&copy;", "&le;", "&ge;", "&lte;", "&eacute;", "&and;",
	"&#38;", "&#60;", "&#x26;", "&#X3c;", "&#;", "&#",
	"&é", "&\xff", "&\x00", "&\n", "&\x80amp;", "&\uff46;", "& ", "&-", "&<", "&>", "&{", "&\"", "&%",
}

// askedEscape is s with the first n of the pairs written, byte by byte.
func askedEscape(s string, n int) string {
	out := ""
	for i := range len(s) {
		one := s[i : i+1]
		for _, pair := range pairs[:n] {
			if pair[0] == s[i:i+1] {
				one = pair[1]
			}
		}
		out += one
	}
	return out
}

// askedPlain is what P4.3 says of s, cut at its `&`s.
func askedPlain(s string) (string, int, api.Errno) {
	parts := strings.Split(s, "&")
	out, at := parts[0], len(parts[0])
	for _, part := range parts[1:] {
		name, rest, closed := strings.Cut(part, ";")
		stands := ""
		for _, pair := range pairs {
			if closed && pair[1] == "&"+name+";" {
				stands = pair[0]
			}
		}
		if stands == "" {
			return "", at, api.ErrHtmlEntity
		}
		out += stands + rest
		at += 1 + len(part)
	}
	return out, 0, api.OK
}

func expectEscapes(t *testing.T, s, text, attr string) {
	t.Helper()
	if got := Text(s); got != text {
		t.Errorf("Text(%q): %q, want %q", s, got, text)
	}
	if got := Attr(s); got != attr {
		t.Errorf("Attr(%q): %q, want %q", s, got, attr)
	}
}

func expectPlain(t *testing.T, s, text string, place int, code api.Errno) {
	t.Helper()
	if got, at, e := Plain(s); got != text || at != place || e != code {
		t.Errorf("Plain(%q): %q, %d, %d, want %q, %d, %d", s, got, at, e, text, place, code)
	}
}

// expectBack asks P4.4 of one text.
func expectBack(t *testing.T, s string) {
	t.Helper()
	expectPlain(t, Text(s), s, 0, api.OK)
	expectPlain(t, Attr(s), s, 0, api.OK)
}

// mixed is a text of about up to n bytes: entities, parts of them, the five bytes, others.
func mixed(source *rand.Rand, parts []string, n int) string {
	var b strings.Builder
	for b.Len() < n && source.Intn(12) > 0 {
		b.WriteString(parts[source.Intn(len(parts))])
		if source.Intn(8) == 0 {
			b.WriteByte(byte(source.Intn(256)))
		}
	}
	return b.String()
}

func TestP4_1Rows(t *testing.T) {
	for _, c := range [][2]string{
		{"", ""},
		{"a<b&\"c{", "a&lt;b&amp;\"c&lbrace;"},
		{`"`, `"`},
		{`a"`, `a"`},
		{`"a"b"`, `"a"b"`},
		{"&<>{", "&amp;&lt;&gt;&lbrace;"},
		{"{>&<", "&lbrace;&gt;&amp;&lt;"},
		{"&&", "&amp;&amp;"},
		{"{{x}}", "&lbrace;&lbrace;x}}"},
		{"&amp;", "&amp;amp;"},
		{"&lt;&gt;&lbrace;&quot;", "&amp;lt;&amp;gt;&amp;lbrace;&amp;quot;"},
		{"}'`;", "}'`;"},
		{"<é€𝄞>", "&lt;é€𝄞&gt;"},
		{"\xff<\x80\xc3", "\xff&lt;\x80\xc3"},
		{"\x00\r\n\t<", "\x00\r\n\t&lt;"},
	} {
		if got := Text(c[0]); got != c[1] {
			t.Errorf("Text(%q): %q, want %q", c[0], got, c[1])
		}
	}
}

func TestP4_2Rows(t *testing.T) {
	for _, c := range [][2]string{
		{"", ""},
		{`a"`, "a&quot;"},
		{`"`, "&quot;"},
		{`""`, "&quot;&quot;"},
		{`"a"b"`, "&quot;a&quot;b&quot;"},
		{"a<b&\"c{", "a&lt;b&amp;&quot;c&lbrace;"},
		{"&<>{\"", "&amp;&lt;&gt;&lbrace;&quot;"},
		{"&quot;", "&amp;quot;"},
		{"&amp;", "&amp;amp;"},
		{"'`}= ", "'`}= "},
		{"\xff\"\x80", "\xff&quot;\x80"},
		{"é\"€\"𝄞", "é&quot;€&quot;𝄞"},
	} {
		if got := Attr(c[0]); got != c[1] {
			t.Errorf("Attr(%q): %q, want %q", c[0], got, c[1])
		}
	}
}

// Each byte alone, at the beginning, in the midst, at the end, and twice.
func TestP4_1P4_2EveryByte(t *testing.T) {
	for c := range 256 {
		one := string([]byte{byte(c)})
		text, attr := one, one
		for i, pair := range pairs {
			if one == pair[0] {
				attr = pair[1]
				if i < 4 {
					text = pair[1]
				}
			}
		}
		expectEscapes(t, one, text, attr)
		expectEscapes(t, one+"ab", text+"ab", attr+"ab")
		expectEscapes(t, "a"+one+"b", "a"+text+"b", "a"+attr+"b")
		expectEscapes(t, "ab"+one, "ab"+text, "ab"+attr)
		expectEscapes(t, one+one, text+text, attr+attr)
		expectEscapes(t, one+"\xff"+one, text+"\xff"+text, attr+"\xff"+attr)
	}
}

func TestP4_1P4_2Mixed(t *testing.T) {
	parts := []string{"a", "&", "<", ">", "{", "\"", "}", "'", "&amp;", "&lt;", "&quot;", "é", "\xff", "\x00", "\n", ";"}
	source := rand.New(rand.NewSource(41))
	for range 20000 {
		s := mixed(source, parts, 50)
		expectEscapes(t, s, askedEscape(s, 4), askedEscape(s, 5))
	}
}

func TestP4_3Rows(t *testing.T) {
	for _, c := range []struct {
		s, text string
		place   int
		code    api.Errno
	}{
		{"", "", 0, api.OK},
		{"&amp;lt;", "&lt;", 0, api.OK},
		{"a&b;", "", 1, api.ErrHtmlEntity},
		{"x&", "", 1, api.ErrHtmlEntity},
		{"<\"{", "<\"{", 0, api.OK},
		{"&", "", 0, api.ErrHtmlEntity},
		{"&amp", "", 0, api.ErrHtmlEntity},
		{"&&amp;", "", 0, api.ErrHtmlEntity},
		{"&amp;&", "", 5, api.ErrHtmlEntity},
		{"&quot;&Lt;", "", 6, api.ErrHtmlEntity},
		{"&lbrace;x&lbrace", "", 9, api.ErrHtmlEntity},
		{"&b;&c;", "", 0, api.ErrHtmlEntity},
		{"é&b;", "", 2, api.ErrHtmlEntity},
		{"\xff\x80&", "", 2, api.ErrHtmlEntity},
		{"amp; lt; ;", "amp; lt; ;", 0, api.OK},
		{"<>{}\"'", "<>{}\"'", 0, api.OK},
		{"&lt;&gt;&amp;&quot;&lbrace;", "<>&\"{", 0, api.OK},
		{"&lt;;", "<;", 0, api.OK},
		{"a&lt;b&gt;c", "a<b>c", 0, api.OK},
		{"\xff&lt;\x80\x00", "\xff<\x80\x00", 0, api.OK},
	} {
		expectPlain(t, c.s, c.text, c.place, c.code)
	}
}

// What stands ahead of an entity and behind it stays as it is, and two side by side are two.
func TestP4_3EachEntity(t *testing.T) {
	around := []string{"", "a", ";", "amp;", "lt;", "é", "\xff", "\x00", "\n", "\"", "<", "{"}
	for _, pair := range pairs {
		for _, ahead := range around {
			for _, behind := range around {
				expectPlain(t, ahead+pair[1]+behind, ahead+pair[0]+behind, 0, api.OK)
			}
		}
		for _, other := range pairs {
			expectPlain(t, pair[1]+other[1], pair[0]+other[0], 0, api.OK)
			expectPlain(t, pair[1]+"-"+other[1]+"-", pair[0]+"-"+other[0]+"-", 0, api.OK)
		}
	}
}

// What comes out is not read again, be it an entity or one that is wrong.
func TestP4_3Once(t *testing.T) {
	for _, pair := range pairs {
		expectPlain(t, "&amp;"+pair[1][1:], pair[1], 0, api.OK)
		expectPlain(t, "&amp;amp;"+pair[1][1:], "&amp;"+pair[1][1:], 0, api.OK)
		expectPlain(t, "&amp;"+pair[1], "&"+pair[0], 0, api.OK)
	}
	for _, s := range wrong {
		if !strings.Contains(s[1:], "&") {
			expectPlain(t, "&amp;"+s[1:], s, 0, api.OK)
		}
	}
}

func TestP4_3EveryByte(t *testing.T) {
	for c := range 256 {
		one := string([]byte{byte(c)})
		if c == '&' {
			continue
		}
		expectPlain(t, one, one, 0, api.OK)
		expectPlain(t, one+one, one+one, 0, api.OK)
		expectPlain(t, "a"+one+"&amp;"+one, "a"+one+"&"+one, 0, api.OK)
		expectPlain(t, "a"+one+"&", "", 2, api.ErrHtmlEntity)
		expectPlain(t, one+"&"+one, "", 1, api.ErrHtmlEntity)
	}
}

func TestP4_3Wrong(t *testing.T) {
	aheads := []string{"", "a", "é", "\xff", "<\"{", ";", "&amp;", "&lt;", "&gt;&quot;", "&lbrace;x", "&amp;amp;"}
	behinds := []string{"", "a", ";", "&amp;", "&", "&b;"}
	for _, s := range wrong {
		for _, ahead := range aheads {
			for _, behind := range behinds {
				expectPlain(t, ahead+s+behind, "", len(ahead), api.ErrHtmlEntity)
			}
		}
	}
}

// An entity without its last bytes, at the end of the text and ahead of other things.
func TestP4_3Cut(t *testing.T) {
	for _, pair := range pairs {
		for n := 1; n < len(pair[1]); n++ {
			cut := pair[1][:n]
			for _, ahead := range []string{"", "ab", "&lt;", "é&amp;"} {
				for _, behind := range []string{"", " ", "\xff", "&", pair[1], pair[0], "&amp;", "x;"} {
					expectPlain(t, ahead+cut+behind, "", len(ahead), api.ErrHtmlEntity)
				}
			}
		}
	}
}

// An entity with one byte exchanged, left out or put in is none.
func TestP4_3NearEntities(t *testing.T) {
	for _, pair := range pairs {
		s := pair[1]
		for at := 1; at <= len(s); at++ {
			for c := range 256 {
				one := string([]byte{byte(c)})
				agreePlain(t, s[:at]+one+s[at:])
				if at < len(s) {
					agreePlain(t, s[:at]+one+s[at+1:])
					agreePlain(t, "x"+s[:at]+s[at+1:]+one)
				}
			}
		}
	}
}

func agreePlain(t *testing.T, s string) api.Errno {
	t.Helper()
	text, place, code := askedPlain(s)
	expectPlain(t, s, text, place, code)
	return code
}

func TestP4_3Mixed(t *testing.T) {
	parts := []string{"a", "é", "<", "{", "\"", ";", "\xff", "\n"}
	for _, pair := range pairs {
		parts = append(parts, pair[1], pair[1])
	}
	rough := append([]string{"&", "amp;", "&am", "&l", "t;", "&LT;", "&#60;", "lbrace;"}, parts...)
	source := rand.New(rand.NewSource(43))
	codes := map[api.Errno]int{}
	for range 20000 {
		codes[agreePlain(t, mixed(source, parts, 60))]++
		codes[agreePlain(t, mixed(source, rough, 60))]++
	}
	if codes[api.OK] < 5000 || codes[api.ErrHtmlEntity] < 5000 {
		t.Errorf("the answers are too much alike: %v", codes)
	}
}

// Every text of up to five of the bytes that entities are made of.
func TestP4_3EveryShortText(t *testing.T) {
	const made = "&;ltgampquo<"
	texts := []string{""}
	for range 5 {
		var longer []string
		for _, s := range texts {
			if agreePlain(t, s); t.Failed() {
				return
			}
			for i := range len(made) {
				longer = append(longer, s+made[i:i+1])
			}
		}
		texts = longer
	}
	for _, s := range texts {
		if agreePlain(t, s); t.Failed() {
			return
		}
	}
}

func TestP4_4Back(t *testing.T) {
	for _, s := range append([]string{"", "a", "é€𝄞", "\xff\x80\x00", "&&&&", "<<>>{{\"\"", "&amp;amp;amp;", "&amp;lt;"}, wrong...) {
		expectBack(t, s)
		expectBack(t, Text(s))
		expectBack(t, Attr(s))
	}
	for first := range 256 {
		for second := range 256 {
			expectBack(t, string([]byte{byte(first), byte(second)}))
		}
	}
}

func TestP4_4Joined(t *testing.T) {
	parts := []string{"a", "&", "<", ">", "{", "\"", "amp;", "&am", "p;", "&lt;", "é", "\xc3", "\xa9", "\xff", ";"}
	for _, a := range parts {
		for _, b := range parts {
			expectEscapes(t, a+b, Text(a)+Text(b), Attr(a)+Attr(b))
			expectPlain(t, Text(a)+Attr(b), a+b, 0, api.OK)
		}
	}
	source := rand.New(rand.NewSource(44))
	for range 5000 {
		a, b := mixed(source, parts, 30), mixed(source, parts, 30)
		expectEscapes(t, a+b, Text(a)+Text(b), Attr(a)+Attr(b))
		expectBack(t, a+b)
	}
}

// R1: any bytes have an answer, and it says no more than the promise does.
func TestR1AnyBytes(t *testing.T) {
	source := rand.New(rand.NewSource(45))
	for range 20000 {
		b := make([]byte, source.Intn(40))
		for i := range b {
			b[i] = byte(source.Intn(256))
		}
		s := string(b)
		expectEscapes(t, s, askedEscape(s, 4), askedEscape(s, 5))
		expectBack(t, s)
		agreePlain(t, s)
	}
}

func TestR1LargeTexts(t *testing.T) {
	s := strings.Repeat("a<b>&\"{é\xff", 1<<18)
	for _, written := range []string{Text(s), Attr(s)} {
		if got, at, e := Plain(written); got != s || at != 0 || e != api.OK {
			t.Errorf("Plain of a large text: %d bytes, %d, %d", len(got), at, e)
		}
		if got, at, e := Plain(written + "&"); got != "" || at != len(written) || e != api.ErrHtmlEntity {
			t.Errorf("Plain of a large wrong text: %d bytes, %d, %d", len(got), at, e)
		}
	}
	ampersands := strings.Repeat("&amp;", 1<<18)
	if got, at, e := Plain(ampersands); len(got) != 1<<18 || at != 0 || e != api.OK {
		t.Errorf("Plain of many entities: %d bytes, %d, %d", len(got), at, e)
	}
}

// R5: calls at one time answer as calls one by one.
func TestR5Goroutines(t *testing.T) {
	var all sync.WaitGroup
	for n := range 8 {
		all.Add(1)
		go func() {
			defer all.Done()
			s := strings.Repeat("<&\"{>", n)
			for range 200 {
				expectEscapes(t, s, askedEscape(s, 4), askedEscape(s, 5))
				expectBack(t, s)
				expectPlain(t, Text(s)+"&", "", len(Text(s)), api.ErrHtmlEntity)
			}
		}()
	}
	all.Wait()
}
