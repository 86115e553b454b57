package data

import (
	"bytes"
	"encoding/json"
	"fmt"
	"math"
	"math/rand"
	"reflect"
	"strings"
	"sync"
	"testing"
	"time"
	"unicode/utf8"

	"stencil/api"
	"stencil/value"
)

// short is s, cut for a message.
func short(s string) string {
	if len(s) > 80 {
		return fmt.Sprintf("%q.. (%d bytes)", s[:80], len(s))
	}
	return fmt.Sprintf("%q", s)
}

func expectValue(t *testing.T, s string, want api.Value) {
	t.Helper()
	v, at, e := Parse([]byte(s))
	if !alike(v, want) || at != 0 || e != api.OK {
		t.Errorf("Parse of %s: %.200v, %d, %d, want %.200v", short(s), v, at, e, want)
	}
	if code := value.Check(v); code != api.OK {
		t.Errorf("what Parse of %s answers may not be: %d", short(s), code)
	}
}

func expectFault(t *testing.T, s string, code api.Errno, place int) {
	t.Helper()
	v, at, e := Parse([]byte(s))
	if at != place || e != code {
		t.Errorf("Parse of %s: %d at %d, want %d at %d", short(s), e, at, code, place)
	}
	if !alike(v, api.Value{}) {
		t.Errorf("Parse of %s: beside %d stands %v", short(s), e, v)
	}
}

// expectAsked holds Parse of s against the oracle, and answers what was asked.
func expectAsked(t *testing.T, s string) answer {
	t.Helper()
	want := askedParse([]byte(s))
	if want.code == api.OK {
		expectValue(t, s, want.v)
	} else {
		expectFault(t, s, want.code, want.at)
	}
	return want
}

func expectPrint(t *testing.T, v api.Value, want string) {
	t.Helper()
	if b, e := Print(v); string(b) != want || e != api.OK {
		t.Errorf("Print: %s, %d, want %s", short(string(b)), e, short(want))
	}
}

func expectRefused(t *testing.T, name string, v api.Value, code api.Errno) {
	t.Helper()
	if asked := value.Check(v); asked != code {
		t.Errorf("%s: Check answers %d, not %d", name, asked, code)
	}
	if b, e := Print(v); len(b) != 0 || e != code {
		t.Errorf("Print of %s: %s, %d, want %d", name, short(string(b)), e, code)
	}
}

// documents are texts of every part of the form, with what they say.
var documents = []struct {
	s string
	v api.Value
}{
	{`null`, null}, {`true`, boolean(true)}, {`false`, boolean(false)},
	{`0`, num(0)}, {`7`, num(7)}, {`-7`, num(-7)}, {`10`, num(10)}, {`-10`, num(-10)}, {`1234567890`, num(1234567890)},
	{`9223372036854775807`, num(math.MaxInt64)}, {`-9223372036854775808`, num(math.MinInt64)},
	{`""`, str("")}, {`"a"`, str("a")}, {`"a b"`, str("a b")}, {`"null"`, str("null")}, {`"[1,{}]"`, str("[1,{}]")}, {`"'"`, str("'")},
	{"\"\x7f é€😀\ufffd\u2028\"", str("\x7f é€😀\ufffd\u2028")},
	{`"\"\\\/\b\f\n\r\t"`, str("\"\\/\b\f\n\r\t")},
	{`"\u0000\u001F\u0041\u00e9\u20AC\uFFFD\uffff"`, str("\x00\x1fAé€\ufffd\uffff")},
	{`"\ud83d\ude00\uD83D\uDE00\uDbFf\udFfF\ud800\udc00"`, str("😀😀\U0010ffff\U00010000")},
	{`"\ud7ff\ue000"`, str("\ud7ff\ue000")}, {`"\\u0041"`, str(`\u0041`)}, {`"\u005cn"`, str(`\n`)}, {`"\u0022"`, str(`"`)},
	{`"\u00410"`, str("A0")}, {`"x\ud83d\ude00y"`, str("x😀y")},
	{`[]`, list()}, {`{}`, rec("-")}, {`[[]]`, list(list())}, {`[{}]`, list(rec("-"))}, {`{"":{}}`, rec("", rec("-"))},
	{`[1]`, list(num(1))}, {`[1,2,3]`, list(num(1), num(2), num(3))}, {`[0,0,-1]`, list(num(0), num(0), num(-1))},
	{`[null,true,false,1,"a",[],{}]`, list(null, boolean(true), boolean(false), num(1), str("a"), list(), rec("-"))},
	{`{"a":1}`, rec("a", num(1))}, {`{"b":1,"a":2,"":3}`, rec("b,a,", num(1), num(2), num(3))},
	{`{"a":null,"b":true,"c":false,"d":-1,"e":"x","f":[1],"g":{"a":1}}`, rec("a,b,c,d,e,f,g", null, boolean(true), boolean(false), num(-1), str("x"), list(num(1)), rec("a", num(1)))},
	{`{"a":{"a":{"a":[{"a":1},{"a":2}]}}}`, rec("a", rec("a", rec("a", list(rec("a", num(1)), rec("a", num(2))))))},
	{`{"\u0061\n":1,"A":2,"a":3,"\ud83d\ude00":4}`, rec("a\n,A,a,😀", num(1), num(2), num(3), num(4))},
}

func TestP6_1Rows(t *testing.T) {
	expectValue(t, `{"a": [1, null]}`, rec("a", list(num(1), null)))
	expectValue(t, ` "\u00e9\n" `, str("é\n"))
	for _, c := range []struct {
		s  string
		at int
	}{{``, 0}, {`[1,]`, 3}, {`01`, 1}, {`-0`, 1}, {`-`, 1}, {`1 2`, 2}, {`nul`, 3}} {
		expectFault(t, c.s, api.ErrDataForm, c.at)
	}
	expectFault(t, `9223372036854775808`, api.ErrDataNumber, 0)
	expectFault(t, `{"a":1,"a":2}`, api.ErrDataTwice, 7)
	expectFault(t, `"\ud800"`, api.ErrDataForm, 1)
	expectFault(t, `"\x"`, api.ErrDataForm, 2)
}

func TestP6_1Documents(t *testing.T) {
	for _, c := range documents {
		expectValue(t, c.s, c.v)
		expectValue(t, "["+c.s+","+c.s+"]", list(c.v, c.v))
		expectValue(t, `{"x":`+c.s+`,"y":[`+c.s+`]}`, rec("x,y", c.v, list(c.v)))
		expectAsked(t, c.s)
	}
}

// TestP6_1Blanks lays every byte ahead of and behind each part: the four blanks are read over, of all others none.
func TestP6_1Blanks(t *testing.T) {
	parts := []string{`[`, `1`, `,`, `-2`, `,`, `[`, `]`, `,`, `{`, `}`, `,`, `null`, `,`, `true`, `,`, `{`, `"a"`, `:`, `"b"`, `,`, `"c"`, `:`, `[`, `false`, `]`, `}`, `]`}
	want := list(num(1), num(-2), list(), rec("-"), null, boolean(true), rec("a,c", str("b"), list(boolean(false))))
	for at := range len(parts) + 1 {
		ahead, behind := strings.Join(parts[:at], ""), strings.Join(parts[at:], "")
		for c := range 256 {
			s := ahead + string([]byte{byte(c)}) + behind
			if c == 32 || c == 9 || c == 10 || c == 13 {
				expectValue(t, s, want)
				expectValue(t, ahead+strings.Repeat(string(rune(c)), 3)+" \t\r\n"+behind, want)
			} else {
				expectAsked(t, s)
			}
		}
	}
	all := " \t\n\r\r\n\t "
	expectValue(t, all+strings.Join(parts, all)+all, want)
	for _, c := range []string{"\x00", "\x0b", "\x0c", "\x1f", "\x7f", "\u00a0", "\u2028", "\ufeff", "//", "/**/", "#"} {
		expectFault(t, c+"1", api.ErrDataForm, 0)
		expectFault(t, "1"+c, api.ErrDataForm, 1)
		expectFault(t, "["+c+"]", api.ErrDataForm, 1)
	}
	for _, s := range []string{`- 1`, `1 0`, `n ull`, `tr ue`, `" \ n"`, `"\ u0041"`, `"\u 0041"`, `"\ud83d \ude00"`, `1 2`} {
		if expectAsked(t, s).code != api.ErrDataForm {
			t.Errorf("%q: a blank inside a part was asked for", s)
		}
	}
}

func TestP6_1Numbers(t *testing.T) {
	for _, s := range []string{"9223372036854775807", "-9223372036854775808", "9223372036854775806", "-9223372036854775807", "1000000000000000000"} {
		expectAsked(t, s)
		expectAsked(t, "[1,"+s+"]")
	}
	for _, s := range []string{"9223372036854775808", "-9223372036854775809", "9999999999999999999", "10000000000000000000", "-10000000000000000000", "18446744073709551615", "18446744073709551616", "18446744073709551617", "-18446744073709551617", strings.Repeat("9", 60000), "1" + strings.Repeat("0", 60000)} {
		expectFault(t, s, api.ErrDataNumber, 0)
		expectFault(t, "  "+s, api.ErrDataNumber, 2)
		expectFault(t, `[1,{"a": `+s, api.ErrDataNumber, 9)
		for _, behind := range []string{"x", ".5", "e1", " x", "]", "\xff", "-"} {
			expectFault(t, s+behind, api.ErrDataNumber, 0)
		}
	}
	for s, at := range map[string]int{
		"00": 1, "01": 1, "0123": 1, "-": 1, "-0": 1, "-00": 1, "-01": 1, "-0x": 1, "--1": 1, "-a": 1, "- 1": 1, "-\"": 1, "-[": 1, "0-": 1, "0.5": 1, "0e1": 1, "0x1": 1, "1.5": 1, "1e5": 1, "1E5": 1, "1-": 1, "12a": 2, "+1": 0, ".5": 0,
		"[0,00]": 4, "[1,-0]": 4, "[01": 2, "[-": 2, "[-,": 2, `{"a":-}`: 6, `{"a":01}`: 6, "00000000000000000000000": 1, "099999999999999999999": 1, "-099999999999999999999": 1, "１": 0, "Infinity": 0, "NaN": 0,
	} {
		expectFault(t, s, api.ErrDataForm, at)
	}
}

func TestP6_1Words(t *testing.T) {
	for _, word := range []string{"null", "true", "false"} {
		for cut := 1; cut < len(word); cut++ {
			expectFault(t, word[:cut], api.ErrDataForm, cut)
			for _, behind := range []string{" ", "]", ",", "\"", "x", "\x00", "\xff", strings.ToUpper(word[cut:])} {
				expectFault(t, word[:cut]+behind, api.ErrDataForm, cut)
				expectFault(t, `[1,`+word[:cut]+behind, api.ErrDataForm, 3+cut)
			}
		}
		expectFault(t, strings.ToUpper(word), api.ErrDataForm, 0)
		expectFault(t, word+"l", api.ErrDataForm, len(word))
		expectFault(t, word+word, api.ErrDataForm, len(word))
	}
	for _, s := range []string{"None", "undefined", "yes", "'a'", "a", "(", ")", "]", "}", ",", ":", "\\", "/", "\x00", "\xff", "é"} {
		expectFault(t, s, api.ErrDataForm, 0)
		expectFault(t, `{"a":`+s, api.ErrDataForm, 5)
	}
	for c := range 256 {
		s := string([]byte{byte(c)})
		expectAsked(t, s)
		expectAsked(t, "["+s)
		expectAsked(t, `{`+s)
		expectAsked(t, `{"a"`+s)
		expectAsked(t, `{"a":`+s)
		expectAsked(t, `{"a":1`+s)
		expectAsked(t, `{"a":1,`+s)
		expectAsked(t, `[1`+s)
		expectAsked(t, `[1,`+s)
		expectAsked(t, `1 `+s)
	}
}

// TestP6_1Ends cuts each document behind each of its bytes: it ends too soon, but where what is left is a whole one.
func TestP6_1Ends(t *testing.T) {
	for _, c := range documents {
		for cut := range len(c.s) {
			want := expectAsked(t, c.s[:cut])
			inText := strings.Contains(c.s, `\u`) || !utf8.ValidString(c.s[:cut])
			if want.code != api.OK && !inText && (want.code != api.ErrDataForm || want.at != cut) {
				t.Errorf("%q: %d at %d was asked for", c.s[:cut], want.code, want.at)
			}
		}
	}
	for _, s := range []string{``, ` `, "\t\n\r ", `[`, `[ `, `[1`, `[1 `, `[1,`, `[1, `, `{`, `{ `, `{"`, `{"a`, `{"a"`, `{"a" `, `{"a":`, `{"a": `, `{"a":1`, `{"a":1 `, `{"a":1,`, `{"a":1, `, `"`, `"a`, `"\`, `"\u`, `"\u0`, `"\u00`, `"\u00e`, `"\u00e9`, `"\ud`, `"\ud8`, `"\ud80`, `-`, `n`, `[{"a":[`, `[[[]`} {
		expectFault(t, s, api.ErrDataForm, len(s))
		for cut := range len(s) {
			expectAsked(t, s[:cut])
		}
	}
	expectFault(t, "", api.ErrDataForm, 0)
	if v, at, e := Parse(nil); !alike(v, api.Value{}) || at != 0 || e != api.ErrDataForm {
		t.Errorf("Parse of nil: %v, %d, %d", v, at, e)
	}
}

func TestP6_1Form(t *testing.T) {
	for s, at := range map[string]int{
		"1 2": 2, "1,": 1, "[]]": 2, "{}}": 2, "[] []": 3, "null null": 5, `"a""b"`: 3, `"a" 1`: 4, "1\x00": 1, "{}\xff": 2,
		"[,": 1, "[1,,2]": 3, "[1,]": 3, "[1 2]": 3, "[1}": 2, "[1:2]": 2, "[:": 1, "[}": 1, "[1,}": 3, "[ ,1]": 2, `["a":1]`: 4, "[1;2]": 2,
		"{,": 1, "{]": 1, "{:": 1, "{1:2}": 1, "{a:1}": 1, "{'a':1}": 1, "{null:1}": 1, `{[]:1}`: 1, `{"a"}`: 4, `{"a",`: 4, `{"a"=1}`: 4, `{"a" 1}`: 5, `{"a"::1}`: 5, `{"a":}`: 5, `{"a":,`: 5, `{"a":]`: 5, `{"a":1]`: 6, `{"a":1 "b"`: 7, `{"a":1:`: 6, `{"a":1,}`: 7, `{"a":1,,`: 7, `{"a":1,b`: 7, `{"a":1,1:`: 7, `{"a":1,]`: 7, `{"a" "b"`: 5, `{{}:1}`: 1,
	} {
		expectFault(t, s, api.ErrDataForm, at)
		expectAsked(t, "[0,"+s)
		expectAsked(t, `{"a":{"b":`+s)
	}
}

// TestP6_1Characters lays each character that there is into a text, as it is and as an escape.
func TestP6_1Characters(t *testing.T) {
	for c := rune(0); c <= utf8.MaxRune; c++ {
		if !utf8.ValidRune(c) {
			continue
		}
		s := `"` + string(c) + `"`
		switch {
		case c < 32:
			expectFault(t, s, api.ErrDataForm, 1)
			expectFault(t, `{"a`+string(c), api.ErrDataForm, 3)
		case c == '"':
			expectFault(t, s, api.ErrDataForm, 2)
		case c == '\\':
			expectFault(t, s, api.ErrDataForm, 3)
		default:
			if v, at, e := Parse([]byte(s)); e != api.OK || at != 0 || v.Kind != api.KStr || v.Str != string(c) {
				t.Fatalf("U+%04X: %v, %d, %d", c, v, at, e)
			}
		}
	}
}

func TestP6_1Units(t *testing.T) {
	for unit := range 0x10000 {
		for _, s := range []string{fmt.Sprintf(`"\u%04x"`, unit), fmt.Sprintf(`"\u%04X`, unit), fmt.Sprintf(`"a\u%04x\u0041"`, unit)} {
			want := expectAsked(t, s)
			if surrogate := unit >= 0xd800 && unit <= 0xdfff; surrogate && (want.code != api.ErrDataForm || want.at != strings.IndexByte(s, '\\')) {
				t.Fatalf("%q: %d at %d was asked for", s, want.code, want.at)
			}
		}
	}
	for high := 0xd800; high <= 0xdbff; high++ {
		for _, low := range []int{0, 0x41, 0xd7ff, 0xd800, 0xdbff, 0xdc00, 0xdc01, 0xdd5a, 0xdffe, 0xdfff, 0xe000, 0xffff} {
			s := fmt.Sprintf(`"\u%04x\u%04X"`, high, low)
			if low < 0xdc00 || low > 0xdfff {
				expectFault(t, s, api.ErrDataForm, 1)
			} else {
				expectValue(t, s, str(string(rune(0x10000+(high-0xd800)*0x400+low-0xdc00))))
			}
		}
	}
	for _, behind := range []string{``, `"`, `x`, `\`, `\"`, `\\`, `\n`, `\x`, `\u`, `\uzz`, `\ud`, `\udc`, `\udc0`, `\udc0"`, `\udc0g"`, `\u0041"`, `\ud800"`, `\ud800\udc00"`, "\n", "\xff", "é", "\xe2\x82", ` \udc00"`, `/udc00"`, `\Udc00"`, `udc00"`} {
		expectFault(t, `"\ud800`+behind, api.ErrDataForm, 1)
		expectFault(t, `["a","b\uDBFF`+behind, api.ErrDataForm, 7)
		expectFault(t, `{"\uDBFF`+behind, api.ErrDataForm, 2)
		expectFault(t, `"\udc00`+behind, api.ErrDataForm, 1)
		expectFault(t, `"\ud800\udc00\udfff`+behind, api.ErrDataForm, 13)
	}
}

func TestP6_1Escapes(t *testing.T) {
	for c := range 256 {
		s := `"\` + string([]byte{byte(c)})
		expectAsked(t, s)
		expectAsked(t, s+`"`)
		if strings.IndexByte(`"\/bfnrtu`, byte(c)) < 0 {
			expectFault(t, s+`0041"`, api.ErrDataForm, 2)
		}
		for digits := range 4 {
			s := `"\u` + "00e9"[:digits] + string([]byte{byte(c)})
			if strings.IndexByte("0123456789abcdefABCDEF", byte(c)) < 0 {
				expectFault(t, s, api.ErrDataForm, 3+digits)
				expectFault(t, s+`00"`, api.ErrDataForm, 3+digits)
				expectFault(t, `{"a":1,`+s, api.ErrDataForm, 10+digits)
			}
		}
	}
	expectFault(t, `"\u-041"`, api.ErrDataForm, 3)
	expectFault(t, `"\u+041"`, api.ErrDataForm, 3)
	expectFault(t, `"\u0x41"`, api.ErrDataForm, 4)
	expectFault(t, `"\u{41}"`, api.ErrDataForm, 3)
	expectFault(t, `"\U00000041"`, api.ErrDataForm, 2)
}

// TestP6_1NoCharacters lays bytes that are no valid character into a text: the first of them is the place.
func TestP6_1NoCharacters(t *testing.T) {
	for _, bad := range []string{"\x80", "\xbf", "\xc0\x80", "\xc1\xbf", "\xc3", "\xc3\xc3", "\xe0\x80\x80", "\xe0\x9f\xbf", "\xe2\x82", "\xe2\x28\xa1", "\xed\xa0\x80", "\xed\xbf\xbf", "\xef\xbf", "\xf0\x80\x80\x80", "\xf0\x8f\xbf\xbf", "\xf0\x9f\x98", "\xf4\x90\x80\x80", "\xf5\x80\x80\x80", "\xf8\x88\x80\x80\x80", "\xfe", "\xff"} {
		for _, behind := range []string{``, `"`, `a"`, `\n"`, "\x00", "é\""} {
			expectFault(t, `"`+bad+behind, api.ErrDataForm, 1)
			expectFault(t, `"aé`+bad+behind, api.ErrDataForm, 4)
			expectFault(t, `{"\n`+bad+behind, api.ErrDataForm, 4)
		}
	}
	for c := range 0x10000 {
		expectAsked(t, `"`+string([]byte{byte(c >> 8), byte(c)})+`"`)
	}
	for c := range 32 {
		for _, behind := range []string{``, `"`, `a"`} {
			expectFault(t, `"`+string(rune(c))+behind, api.ErrDataForm, 1)
			expectFault(t, `[1, "é`+string(rune(c))+behind, api.ErrDataForm, 7)
		}
	}
}

// TestP6_1WrongBytes puts every byte in the place of, and ahead of, each byte of each document.
func TestP6_1WrongBytes(t *testing.T) {
	for _, doc := range documents {
		for at := range len(doc.s) {
			for c := range 256 {
				one := string([]byte{byte(c)})
				expectAsked(t, doc.s[:at]+one+doc.s[at+1:])
				expectAsked(t, doc.s[:at]+one+doc.s[at:])
			}
		}
	}
}

func TestP6_1LongBytes(t *testing.T) {
	for _, s := range []string{`null`, `[1,2]`, `{"a":"b"}`} {
		room := strings.Repeat(" ", api.MaxData-len(s))
		want := askedParse([]byte(s)).v
		expectValue(t, room+s, want)
		expectValue(t, s+room, want)
		expectFault(t, room+" "+s, api.ErrDataLong, 0)
		expectFault(t, s+" "+room, api.ErrDataLong, 0)
		expectFault(t, room[1:]+s+"x", api.ErrDataForm, api.MaxData-1)
		expectFault(t, room+s+"x", api.ErrDataLong, 0)
	}
	for _, c := range []string{"", " ", "[", "]", "x", "\xff", "\"", "9"} {
		expectFault(t, "x"+strings.Repeat(c, api.MaxData), map[bool]api.Errno{true: api.ErrDataForm, false: api.ErrDataLong}[c == ""], 0)
		expectFault(t, c+strings.Repeat(" ", 3*api.MaxData), api.ErrDataLong, 0)
	}
	expectFault(t, strings.Repeat(" ", api.MaxData), api.ErrDataForm, api.MaxData)
	expectFault(t, `"`+strings.Repeat("a", api.MaxData-1), api.ErrDataForm, api.MaxData)
	expectFault(t, `"`+strings.Repeat("a", api.MaxData-2)+`"`, api.ErrDataLong, 0)
}

// TestP6_1LongTexts counts the bytes that a text stands for, not those that it is written with.
func TestP6_1LongTexts(t *testing.T) {
	for _, c := range []struct{ written, meant string }{
		{"a", "a"}, {"é", "é"}, {"€", "€"}, {"😀", "😀"}, {`\n`, "\n"}, {`\/`, "/"}, {`\u0041`, "A"}, {`\u00e9`, "é"}, {`\u20ac`, "€"}, {`\ud83d\ude00`, "😀"},
	} {
		n := api.MaxStr / len(c.meant)
		rest := strings.Repeat("x", api.MaxStr-n*len(c.meant))
		written, meant := strings.Repeat(c.written, n)+rest, strings.Repeat(c.meant, n)+rest
		if len(meant) != api.MaxStr {
			t.Fatalf("%q makes %d bytes", c.meant, len(meant))
		}
		expectValue(t, `"`+written+`"`, str(meant))
		expectValue(t, `[{"`+written+`":1}]`, list(rec(meant, num(1))))
		for _, long := range []string{"x" + written, written + "x", written + `\t`, written + c.written} {
			expectFault(t, `"`+long+`"`, api.ErrDataLong, 0)
			expectFault(t, ` ["a", "`+long+`"`, api.ErrDataLong, 7)
			expectFault(t, `{"`+long+`"`, api.ErrDataLong, 1)
			expectFault(t, `{"a":1, "`+long+`"x`, api.ErrDataLong, 8)
			expectFault(t, `"`+long, api.ErrDataForm, 1+len(long))
			expectFault(t, `"`+long+"\n\"", api.ErrDataForm, 1+len(long))
			expectFault(t, `"`+long+"\xff\"", api.ErrDataForm, 1+len(long))
			expectFault(t, `"`+long+`\x"`, api.ErrDataForm, 2+len(long))
			expectFault(t, `"`+long+`\ud800"`, api.ErrDataForm, 1+len(long))
			expectFault(t, `"`+long+`"x`, api.ErrDataLong, 0)
		}
	}
}

func TestP6_1Twice(t *testing.T) {
	for s, at := range map[string]int{
		`{"a":1,"a":2}`: 7, `{"a":1,"a"`: 7, `{"a":1, "a"x`: 8, `{"a":1,"b":2,"a":3}`: 13, `{"":1,"":2}`: 6, `{"a":1,"\u0061":2}`: 7, `{"\u0061":1,"a":2}`: 12, `{"\n":1,"\u000A":2}`: 8, `{"/":1,"\/":2}`: 7,
		`{"é":1,"\u00e9":2}`: 8, `{"\ud83d\ude00":1,"😀":2}`: 18, `[{"a":1},{"b":{"a":1,"a":2}}]`: 21, `{"a":{"a":1},"a":2}`: 13, `{"a":[{"a":1}],"a"`: 15, `{"a":1,"b":2,"b":3,"a":4}`: 13,
	} {
		expectFault(t, s, api.ErrDataTwice, at)
	}
	for _, s := range []string{`{"a":{"a":1}}`, `[{"a":1},{"a":1}]`, `{"a":1,"A":2}`, `{"a":1,"a ":2}`, `{"a":1,"":2}`, `{"a":"b","b":"a"}`, `{"a":{"b":1},"b":{"b":1}}`} {
		if expectAsked(t, s).code != api.OK {
			t.Errorf("%s: a fault was asked for", s)
		}
	}
	long := strings.Repeat("a", api.MaxStr)
	expectFault(t, `{"`+long+`":1,"`+long+`":2}`, api.ErrDataTwice, len(long)+6)
	expectFault(t, `{"`+long+`":1,"`+long+`a":2}`, api.ErrDataLong, len(long)+6)
	expectFault(t, `{"`+long+`":1,"`+long, api.ErrDataForm, 2*len(long)+7)
}

// shells are ways to open a value once more, and to close it.
var shells = []struct{ opening, closing string }{{`[`, `]`}, {`{"a":`, `}`}, {`[`, `,1]`}, {` { "a" : `, ` , "b" : "x" } `}}

func TestP6_1Deep(t *testing.T) {
	for _, shell := range shells {
		at := func(depth int, inner string) string {
			return strings.Repeat(shell.opening, depth-1) + inner + strings.Repeat(shell.closing, depth-1)
		}
		place := len(shell.opening) * api.MaxDepth
		for _, inner := range []string{`null`, `true`, `false`, `1`, `-1`, `"a"`, `[]`, `{}`, `[ ]`} {
			if want := expectAsked(t, at(api.MaxDepth, inner)); want.code != api.OK {
				t.Errorf("depth MaxDepth: %d was asked for", want.code)
			}
			expectFault(t, at(api.MaxDepth+1, inner), api.ErrDataDeep, place)
			expectFault(t, at(api.MaxDepth+1, "\n\n"+inner), api.ErrDataDeep, place+2)
			blank := len(shell.opening) - len(strings.TrimLeft(shell.opening, " "))
			expectFault(t, at(2000, inner), api.ErrDataDeep, place+blank)
			expectFault(t, at(api.MaxDepth+1, inner)+"x", api.ErrDataDeep, place)
		}
		for _, inner := range []string{`n`, `tx`, `-`, `-0`, `00`, `99999999999999999999`, `"`, "\"\xff", `"\x`, `[`, `{`, `[[`, `{"a`, `"` + strings.Repeat("a", 5000) + `"`} {
			expectFault(t, at(api.MaxDepth+1, inner), api.ErrDataDeep, place)
		}
		for _, inner := range []string{`x`, `,`, `:`, `+1`, "\x00", "\xff", `N`, `'`} {
			expectFault(t, at(api.MaxDepth+1, inner), api.ErrDataForm, place)
		}
		for cut := range len(at(api.MaxDepth+2, "1")) {
			expectAsked(t, at(api.MaxDepth+2, "1")[:cut])
		}
	}
	full := strings.Repeat("[", api.MaxDepth)
	expectFault(t, full+"1", api.ErrDataDeep, api.MaxDepth)
	expectFault(t, full, api.ErrDataForm, api.MaxDepth)
	expectFault(t, full+"}", api.ErrDataForm, api.MaxDepth)
	expectFault(t, full+"],x", api.ErrDataForm, api.MaxDepth+2)
	expectFault(t, full+"],[1", api.ErrDataDeep, api.MaxDepth+3)
}

func TestP6_1Large(t *testing.T) {
	most := "[" + strings.Repeat("0,", api.MaxItems-2)
	expectValue(t, most+"0]", list(repeated(num(0), api.MaxItems-1)...))
	expectFault(t, most+"0,1]", api.ErrDataLarge, len(most)+2)
	expectFault(t, most+"0,\t 1]", api.ErrDataLarge, len(most)+4)
	for _, inner := range []string{`null`, `"a"`, `[]`, `{}`, `{"a`, `-`, `-0`, `99999999999999999999`, `"`, `"` + "\xff", `tx`} {
		expectFault(t, most+"0,"+inner, api.ErrDataLarge, len(most)+2)
		expectFault(t, most+"["+inner, api.ErrDataLarge, len(most)+1)
		expectFault(t, most+`{"a":`+inner, api.ErrDataLarge, len(most)+5)
	}
	for _, inner := range []string{`x`, `]`, `,`, `+`, "\xff"} {
		expectFault(t, most+"0,"+inner, api.ErrDataForm, len(most)+2)
	}
	for _, inner := range []string{`[]`, `{}`, `"a"`, `true`} {
		if want := expectAsked(t, most+inner+"]"); want.code != api.OK {
			t.Errorf("MaxItems: %d was asked for", want.code)
		}
	}
	expectFault(t, most+`{"a"`, api.ErrDataForm, len(most)+4)
	expectFault(t, most+`{"a":1`, api.ErrDataLarge, len(most)+5)
	half := strings.Repeat("0,", api.MaxItems/2-2) + "0"
	expectAsked(t, "[["+half+"],["+half[2:]+"]]")
	expectFault(t, "[["+half+"],["+half+"]]", api.ErrDataLarge, 5+2*len(half)-1)

	deep := "[" + strings.Repeat("0,", api.MaxItems-api.MaxDepth) + strings.Repeat("[", api.MaxDepth-1)
	expectFault(t, deep+"1", api.ErrDataDeep, len(deep))
	if want := expectAsked(t, deep[:len(deep)-1]+"1"); want.at != len(deep)-1+1 {
		t.Errorf("the value ahead: %d at %d was asked for", want.code, want.at)
	}
	more := "[0," + deep[1:]
	expectFault(t, more+"1", api.ErrDataLarge, len(more)-1)
}

func repeated(v api.Value, n int) []api.Value {
	vs := make([]api.Value, n)
	for i := range vs {
		vs[i] = v
	}
	return vs
}

// TestP6_1TwoFaults lays each fault ahead of each other one, in a list: the one that is met first is told.
func TestP6_1TwoFaults(t *testing.T) {
	long := `"` + strings.Repeat("a", api.MaxStr+1) + `"`
	faults := []struct {
		s    string
		at   int
		code api.Errno
	}{
		{`x`, 0, api.ErrDataForm}, {`nulx`, 3, api.ErrDataForm}, {`-0`, 1, api.ErrDataForm}, {`"\x"`, 2, api.ErrDataForm}, {`"\ud800"`, 1, api.ErrDataForm}, {"\"\xff\"", 1, api.ErrDataForm}, {`[,]`, 1, api.ErrDataForm}, {`{"a" 1}`, 5, api.ErrDataForm},
		{`99999999999999999999`, 0, api.ErrDataNumber}, {long, 0, api.ErrDataLong}, {`{` + long + `:1}`, 1, api.ErrDataLong}, {`{"a":1,"a":2}`, 7, api.ErrDataTwice},
		{strings.Repeat("[", 30) + strings.Repeat("]", 30), api.MaxDepth - 1, api.ErrDataDeep}, {"[" + strings.Repeat("0,", api.MaxItems) + "0]", 2*api.MaxItems - 5, api.ErrDataLarge},
	}
	for _, one := range faults {
		for _, two := range faults {
			// Two of those that are too large make bytes that are too long.
			if one.code == api.ErrDataLarge && two.code == api.ErrDataLarge {
				continue
			}
			for _, between := range []string{`,`, ` , [1, "b"], `} {
				expectFault(t, `[0,`+one.s+between+two.s+`]`, one.code, one.at+3)
			}
			expectAsked(t, `{"a":`+one.s+`,"a":`+two.s+`}`)
		}
		expectFault(t, `{"a":1,"a":`+one.s, api.ErrDataTwice, 7)
	}
	expectFault(t, `{"a":99999999999999999999,"a":1}`, api.ErrDataNumber, 5)
	expectFault(t, `{"a":1,"a"`+"\xff", api.ErrDataTwice, 7)
	expectFault(t, `{"a":1,"a\x"`, api.ErrDataForm, 10)
}

// TestP6_1Short holds every short text over a few bytes against the oracle.
func TestP6_1Short(t *testing.T) {
	for _, c := range []struct {
		ahead string
		bytes string
		most  int
	}{
		{``, "[]{},:\"01- nx", 5}, {`{"a":`, `[]{},:"a1 `, 5}, {`[1`, `[]{},:"1 `, 5}, {`"`, "\"\\u0dCn\x1f\xc3\xa9", 5}, {`"\ud8`, `0\udcF"`, 6}, {`-`, `01-9 ,`, 5}, {`"\ud83d\u`, `dDcCeE08"`, 5},
	} {
		var grow func(s string, left int)
		grow = func(s string, left int) {
			expectAsked(t, s)
			for i := 0; left > 0 && i < len(c.bytes); i++ {
				grow(s+c.bytes[i:i+1], left-1)
			}
		}
		grow(c.ahead, c.most)
	}
}

func TestP6_1Random(t *testing.T) {
	codes := map[api.Errno]int{}
	m := maker{rand.New(rand.NewSource(6))}
	for range 60000 {
		v := m.value(4)
		s := m.print(v)
		if m.Intn(6) == 0 {
			shell := shells[m.Intn(len(shells))]
			n := 16 + m.Intn(9)
			s = strings.Repeat(shell.opening, n) + s + strings.Repeat(shell.closing, n)
		} else {
			expectValue(t, s, v)
		}
		codes[expectAsked(t, m.spoilt(s)).code]++
	}
	for _, code := range []api.Errno{api.OK, api.ErrDataForm, api.ErrDataTwice, api.ErrDataDeep, api.ErrDataNumber} {
		if codes[code] < 20 {
			t.Errorf("code %d was met %d times alone", code, codes[code])
		}
	}
}

func TestP6_2Kinds(t *testing.T) {
	for _, c := range []struct {
		v api.Value
		s string
	}{
		{null, `null`}, {boolean(true), `true`}, {boolean(false), `false`}, {num(0), `0`}, {num(-3), `-3`}, {num(math.MinInt64), `-9223372036854775808`}, {num(math.MaxInt64), `9223372036854775807`},
		{str(""), `""`}, {str("a"), `"a"`}, {str("\"\\/\b\f\n\r\t"), `"\"\\/\b\f\n\r\t"`}, {str("\x00\x01\x0b\x0e\x1a\x1f"), `"\u0000\u0001\u000b\u000e\u001a\u001f"`},
		{str(" \x7f\u0080é€\u2028\ufeff\ufffd😀<&>'"), "\" \x7f\u0080é€\u2028\ufeff\ufffd😀<&>'\""}, {str(`\u0041`), `"\\u0041"`},
		{list(), `[]`}, {rec("-"), `{}`}, {list(list(), rec("-"), list(null)), `[[],{},[null]]`}, {list(num(1), str("a,b"), boolean(true)), `[1,"a,b",true]`},
		{rec("b,a,", num(1), list(num(2)), rec("a", null)), `{"b":1,"a":[2],"":{"a":null}}`}, {rec("\"\n", num(1)), `{"\"\n":1}`},
		{api.Value{Kind: api.KList, List: []api.Value{}, Names: []string{}}, `[]`}, {api.Value{Kind: api.KRec, List: []api.Value{}, Names: []string{}}, `{}`}, {api.Value{Kind: api.KInt, List: []api.Value{}, Names: []string{}}, `0`},
	} {
		expectPrint(t, c.v, c.s)
		expectPrint(t, list(c.v, c.v), "["+c.s+","+c.s+"]")
		expectPrint(t, rec("x,y", c.v, null), `{"x":`+c.s+`,"y":null}`)
	}
}

func TestP6_2Characters(t *testing.T) {
	for c := rune(0); c <= utf8.MaxRune; c++ {
		if !utf8.ValidRune(c) || c > 0x3000 && c%7 != 0 {
			continue
		}
		want := fmt.Sprintf(`"a%sb"`, askedEscapes.Replace(string(c)))
		if c >= 32 && c != '"' && c != '\\' && want != `"a`+string(c)+`b"` {
			t.Fatalf("U+%04X: %q is asked for", c, want)
		}
		expectPrint(t, str("a"+string(c)+"b"), want)
		if c < 256 {
			v := api.Value{Kind: api.KRec, Names: []string{"a" + string(c) + "b", ""}, List: []api.Value{null, null}}
			expectPrint(t, v, `{`+want+`:null,"":null}`)
		}
	}
}

func TestP6_2Refused(t *testing.T) {
	long := strings.Repeat("a", api.MaxStr+1)
	for i, c := range []struct {
		v    api.Value
		code api.Errno
	}{
		{api.Value{}, api.ErrValueKind}, {api.Value{Kind: -1}, api.ErrValueKind}, {api.Value{Kind: 7}, api.ErrValueKind}, {api.Value{Kind: 9, Str: "\xff"}, api.ErrValueKind}, {api.Value{Kind: 256 + api.KInt}, api.ErrValueKind}, {api.Value{Kind: math.MinInt64}, api.ErrValueKind},
		{str("\xff"), api.ErrValueForm}, {str("a\xc3"), api.ErrValueForm}, {str("\xed\xa0\x80"), api.ErrValueForm}, {str(long), api.ErrValueForm},
		{rec("a,a", null, null), api.ErrValueForm}, {rec("a", null, null), api.ErrValueForm}, {rec("a,b", null), api.ErrValueForm}, {rec("-", null), api.ErrValueForm}, {rec("a"), api.ErrValueForm}, {rec("\xff", null), api.ErrValueForm}, {rec(long, null), api.ErrValueForm},
		{api.Value{Kind: api.KNull, Bool: true}, api.ErrValueForm}, {api.Value{Kind: api.KBool, Int: 1}, api.ErrValueForm}, {api.Value{Kind: api.KInt, Str: "a"}, api.ErrValueForm}, {api.Value{Kind: api.KStr, List: []api.Value{null}}, api.ErrValueForm}, {api.Value{Kind: api.KList, Names: []string{"a"}}, api.ErrValueForm}, {api.Value{Kind: api.KRec, Str: "a"}, api.ErrValueForm},
		{nest(api.MaxDepth, null), api.ErrValueDeep}, {nest(4095, null), api.ErrValueDeep}, {many(api.MaxItems), api.ErrValueLarge},
		{list(many(api.MaxItems/2), many(api.MaxItems/2)), api.ErrValueLarge},
	} {
		name := fmt.Sprintf("value %d", i)
		expectRefused(t, name, c.v, c.code)
		expectRefused(t, name+" in a list", list(null, c.v), c.code)
		expectRefused(t, name+" in a record", rec("a,b", c.v, str("\xff")), c.code)
		expectRefused(t, name+" ahead of one of no kind", list(c.v, api.Value{}), c.code)
		expectRefused(t, name+" behind one of no kind", list(api.Value{}, c.v), api.ErrValueKind)
	}
}

func TestP6_2Long(t *testing.T) {
	text := strings.Repeat("\x01", api.MaxStr)
	written := `"` + strings.Repeat(`\u0001`, api.MaxStr) + `"`
	expectPrint(t, str(text), written)
	expectPrint(t, list(repeated(str(text), 40)...), "["+strings.Repeat(written+",", 39)+written+"]")
	expectPrint(t, rec(text, str(text)), "{"+written+":"+written+"}")
	expectPrint(t, nest(api.MaxDepth-1, null), askedPrint(nest(api.MaxDepth-1, null)))
	expectPrint(t, many(api.MaxItems-1), "["+strings.Repeat("null,", api.MaxItems-2)+"null]")
}

func TestP6_2Random(t *testing.T) {
	m := maker{rand.New(rand.NewSource(62))}
	for range 20000 {
		v := m.value(5)
		want := askedPrint(v)
		expectPrint(t, v, want)
		if !json.Valid([]byte(want)) {
			t.Errorf("%q is no JSON", want)
		}
	}
}

// expectBack holds what P6.3 says of v against both calls.
func expectBack(t *testing.T, v api.Value) {
	t.Helper()
	b, e := Print(v)
	if e != api.OK {
		t.Errorf("Print: %d", e)
		return
	}
	if len(b) > api.MaxData {
		expectFault(t, string(b), api.ErrDataLong, 0)
		return
	}
	w, at, e := Parse(b)
	if !value.Same(v, w) || !alike(v, w) || at != 0 || e != api.OK {
		t.Errorf("Parse of %s: %d at %d, or another value", short(string(b)), e, at)
	}
	expectPrint(t, w, string(b))
}

func TestP6_3ThereAndBack(t *testing.T) {
	m := maker{rand.New(rand.NewSource(63))}
	for _, c := range documents {
		expectBack(t, c.v)
	}
	for range 20000 {
		v := m.value(6)
		expectBack(t, v)
		loose := m.print(v)
		if w, _, e := Parse([]byte(loose)); e == api.OK {
			expectPrint(t, w, askedPrint(v))
		} else {
			t.Errorf("Parse of %q: %d", loose, e)
		}
	}
	text := strings.Repeat("é", api.MaxStr/2)
	for _, v := range []api.Value{
		nest(api.MaxDepth-1, null), nest(api.MaxDepth-1, list()), str(text), rec(text, str(text)), list(repeated(num(7), api.MaxItems-1)...), list(repeated(num(77), api.MaxItems-1)...), many(api.MaxItems - 1),
		list(repeated(str(text), 15)...), list(repeated(str(text), 16)...), str(strings.Repeat("\x00", api.MaxStr)), list(repeated(str(strings.Repeat("\x00", api.MaxStr)), 3)...),
	} {
		expectBack(t, v)
	}
	for size := api.MaxData - 2; size <= api.MaxData+2; size++ {
		v := list(append(repeated(str(strings.Repeat("a", api.MaxStr)), 15), str(strings.Repeat("b", size-15*(api.MaxStr+3)-4)))...)
		if b, _ := Print(v); len(b) != size {
			t.Fatalf("%d bytes, want %d", len(b), size)
		}
		expectBack(t, v)
	}
}

// TestP6_3MayBe holds every answer of Parse over spoilt bytes against value.Check: OK just where a value may be.
func TestP6_3MayBe(t *testing.T) {
	m := maker{rand.New(rand.NewSource(64))}
	for range 30000 {
		s := m.spoilt(m.print(m.value(3)))
		v, at, e := Parse([]byte(s))
		if code := value.Check(v); (code == api.OK) != (e == api.OK) || e == api.OK && at != 0 {
			t.Errorf("Parse of %q: %d at %d, and Check %d", s, e, at, code)
		}
		if e == api.OK {
			expectBack(t, v)
		}
	}
}

// TestR4BytesStay hands in bytes with spare room and spoils them afterwards.
func TestR4BytesStay(t *testing.T) {
	for _, s := range []string{`{"name":["text",{"other":"é\n"}],"x":"y"}`, `"text"`, `[1,`, `{"a":1,"a":2}`, ``, `"\ud800"`, ` 12 `, strings.Repeat("[", 40), strings.Repeat(" ", api.MaxData+1)} {
		for _, room := range []int{0, 1, 40} {
			all := append([]byte(s), bytes.Repeat([]byte("#"), room)...)
			before := bytes.Clone(all)
			v, at, e := Parse(all[:len(s)])
			if !bytes.Equal(all, before) {
				t.Errorf("%s was changed", short(s))
			}
			for i := range all {
				all[i] = '!'
			}
			if want := askedParse([]byte(s)); !alike(v, want.v) || at != want.at || e != want.code {
				t.Errorf("%s is kept: %v", short(s), v)
			}
		}
	}
}

// slots are the addresses of all that v's lists hold, their spare room too, each with how often it is met.
func slots(v api.Value, parts map[*api.Value]int, names map[*string]int) {
	for i := range v.List[:cap(v.List)] {
		parts[&v.List[:cap(v.List)][i]]++
	}
	for i := range v.Names[:cap(v.Names)] {
		names[&v.Names[:cap(v.Names)][i]]++
	}
	for _, one := range v.List {
		slots(one, parts, names)
	}
}

func TestR4AnswersAreNew(t *testing.T) {
	s := `[[1,2,3],[1,2,3],{"a":[],"b":{"a":[1]},"c":[{},{},[]]},{"a":[],"b":{"a":[1]},"c":[{},{},[]]},"x",[[],[],[[1,2],[1,2]]]]`
	parts, names := map[*api.Value]int{}, map[*string]int{}
	for range 3 {
		v, _, _ := Parse([]byte(s))
		slots(v, parts, names)
	}
	for _, n := range parts {
		if n > 1 {
			t.Fatal("two lists share an element's place")
		}
	}
	for _, n := range names {
		if n > 1 {
			t.Fatal("two lists share a name's place")
		}
	}
	if len(parts) < 60 || len(names) < 12 {
		t.Errorf("%d and %d places were met alone", len(parts), len(names))
	}
}

// roomy is v in memory of its own, with spare room behind each list that holds marks.
func roomy(v api.Value) api.Value {
	parts := make([]api.Value, 0, len(v.List)+3)
	for _, one := range v.List {
		parts = append(parts, roomy(one))
	}
	names := append(make([]string, 0, len(v.Names)+3), v.Names...)
	v.List, v.Names = parts, names
	for i := range 3 {
		parts[:cap(parts)][len(parts)+i] = str("mark")
		names[:cap(names)][len(names)+i] = "mark"
	}
	return v
}

// opened is v with the spare room of each of its lists as part of it.
func opened(v api.Value) api.Value {
	parts := []api.Value{}
	for _, one := range v.List[:cap(v.List)] {
		parts = append(parts, opened(one))
	}
	v.List, v.Names = parts, append([]string{}, v.Names[:cap(v.Names)]...)
	return v
}

func TestR4ValuesStay(t *testing.T) {
	for i, plain := range []api.Value{null, str("a\n"), list(), rec("-"), list(num(1), list(str("x"), rec("a,b", null, list()))), rec("a,a", null, null), rec("a", list(api.Value{})), nest(30, null)} {
		v := roomy(plain)
		before := opened(v)
		one, e := Print(v)
		two, _ := Print(v)
		if !reflect.DeepEqual(opened(v), before) {
			t.Errorf("value %d was changed", i)
		}
		kept := bytes.Clone(two)
		for j := range one[:cap(one)] {
			one[:cap(one)][j] = '!'
		}
		if !bytes.Equal(two, kept) || !reflect.DeepEqual(opened(v), before) {
			t.Errorf("value %d: the answer shares memory", i)
		}
		if three, code := Print(v); !bytes.Equal(three, kept) || code != e {
			t.Errorf("value %d: a later answer is another", i)
		}
	}
}

func TestR1Deep(t *testing.T) {
	for opening, at := range map[string]int{`[`: api.MaxDepth, `{"a":`: 5 * api.MaxDepth, ` {"a": `: 7*api.MaxDepth + 1, `[1,`: 3*(api.MaxDepth-1) + 1, `{"b":1,"a":`: 11*(api.MaxDepth-1) + 5, `[{"":`: 5 * api.MaxDepth / 2} {
		for _, inner := range []string{``, `1`, `x`, `]`, `}`} {
			expectFault(t, strings.Repeat(opening, 4096)+inner, api.ErrDataDeep, at)
		}
	}
	expectFault(t, strings.Repeat("[", api.MaxData), api.ErrDataDeep, api.MaxDepth)
	expectFault(t, strings.Repeat("]", api.MaxData), api.ErrDataForm, 0)
	expectRefused(t, "4096 lists and records", nest(4095, null), api.ErrValueDeep)
}

func TestR1Random(t *testing.T) {
	r := rand.New(rand.NewSource(1))
	for range 30000 {
		b := make([]byte, r.Intn(20))
		for i := range b {
			b[i] = byte(r.Intn(256))
		}
		expectAsked(t, string(b))
		expectAsked(t, `"`+string(b))
	}
}

// TestR1Size asks for times that a cost of the square of the size would break by far.
func TestR1Size(t *testing.T) {
	start := time.Now()
	var names strings.Builder
	for i := range 5000 {
		fmt.Fprintf(&names, `"n%d":0,`, i)
	}
	for _, s := range []string{
		`"` + strings.Repeat("a", api.MaxData-2) + `"`, `"` + strings.Repeat(`\u0000`, 10900) + `"`, `"` + strings.Repeat(`\ud83d\ude00`, 5000), strings.Repeat("9", api.MaxData), strings.Repeat(" ", api.MaxData),
		"{" + names.String() + `"x":1}`, "[" + strings.Repeat("0,", api.MaxItems-2) + "0]", "[" + strings.Repeat("{},", api.MaxItems-2) + "{}]", "[" + strings.Repeat("[],", api.MaxItems),
	} {
		for range 30 {
			if v, _, e := Parse([]byte(s)); e == api.OK {
				Print(v)
			}
		}
	}
	text := strings.Repeat("\x01", api.MaxStr)
	if b, e := Print(list(repeated(str(text), 2000)...)); e != api.OK || len(b) != 2000*(6*api.MaxStr+3)+1 {
		t.Errorf("%d bytes, %d", len(b), e)
	}
	if spent := time.Since(start); spent > 20*time.Second {
		t.Errorf("it took %v", spent)
	}
}

func TestR5Goroutines(t *testing.T) {
	const good, bad = `{"a":[1,"x",{"b":null}],"c":""}`, `{"a":[1,"x",{"b":null,"b":1}]}`
	var group sync.WaitGroup
	for range 8 {
		group.Go(func() {
			for range 200 {
				v, _, _ := Parse([]byte(good))
				if b, e := Print(v); string(b) != good || e != api.OK {
					t.Error("an answer changed")
				}
				if w, at, e := Parse([]byte(bad)); w.Kind != 0 || at != 22 || e != api.ErrDataTwice {
					t.Error("a fault changed")
				}
			}
		})
	}
	group.Wait()
}
