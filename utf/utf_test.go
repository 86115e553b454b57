package utf

import (
	"math"
	"math/rand"
	"strings"
	"sync"
	"testing"
	"unicode/utf8"

	"stencil/api"
)

// firsts are the first numbers of the characters of 1 to 4 bytes, and the one behind the last of all.
var firsts = [5]int{0, 0x80, 0x800, 0x10000, 0x110000}

// headBits are the bits that the first byte of a character of 1 to 4 bytes begins with.
var headBits = [4]int{0, 0xc0, 0xe0, 0xf0}

// spell writes a number in n bytes as UTF-8 does, be it the shortest form or not, a character or not.
func spell(number, n int) string {
	b := make([]byte, n)
	for i := n - 1; i > 0; i-- {
		b[i] = byte(0x80 + number%64)
		number /= 64
	}
	b[0] = byte(headBits[n-1] + number)
	return string(b)
}

// character is how many bytes the character of that number takes: 0, if there is none.
func character(number int) int {
	if number >= 0xd800 && number <= 0xdfff {
		return 0
	}
	for n := 1; n <= 4; n++ {
		if number < firsts[n] {
			return n
		}
	}
	return 0
}

// headLength is how many bytes a character with that first byte takes: 0, if there is none.
func headLength(head byte) int {
	switch {
	case head < 0x80:
		return 1
	case head>>5 == 0b110:
		return 2
	case head>>4 == 0b1110:
		return 3
	case head>>3 == 0b11110:
		return 4
	}
	return 0
}

// whole is how many bytes of s its first character takes: 0, if it is cut or is none.
func whole(s string) int {
	n := headLength(s[0])
	if n == 0 || n > len(s) {
		return 0
	}
	number := int(s[0]) - headBits[n-1]
	for i := 1; i < n; i++ {
		if s[i] < 128 || s[i] > 191 {
			return 0
		}
		number = number*64 + int(s[i]) - 128
	}
	if character(number) != n {
		return 0
	}
	return n
}

// asked is what P3.1 says of s, character by character.
func asked(s string) (int, api.Errno) {
	at := 0
	for at < len(s) {
		n := whole(s[at:])
		if n == 0 {
			return at, api.ErrUtfByte
		}
		at += n
	}
	return 0, api.OK
}

// askedPlace is what P3.2 says of s and the place, clause by clause.
func askedPlace(s string, at int) (int, int, api.Errno) {
	if at < 0 || at > len(s) {
		return 0, 0, api.ErrUtfPlace
	}
	ahead := s[:at]
	column := 1
	for _, c := range []byte(ahead[strings.LastIndexByte(ahead, 10)+1:]) {
		if c < 128 || c > 191 {
			column++
		}
	}
	return 1 + strings.Count(ahead, "\n"), column, api.OK
}

// askedWord is what P3.3 says of s, with the one byte in which names and tags differ.
func askedWord(s, joint string) bool {
	const small = "abcdefghijklmnopqrstuvwxyz"
	if len(s) < 1 || len(s) > 32 || !strings.Contains(small, s[:1]) {
		return false
	}
	for i := range len(s) {
		if !strings.Contains(small+"0123456789"+joint, s[i:i+1]) {
			return false
		}
	}
	return true
}

func expectValid(t *testing.T, s string, place int, code api.Errno) {
	t.Helper()
	if at, e := Valid(s); at != place || e != code {
		t.Errorf("Valid(%q): %d, %d, want %d, %d", s, at, e, place, code)
	}
}

func expectPlace(t *testing.T, s string, at, line, column int, code api.Errno) {
	t.Helper()
	if l, c, e := Place(s, at); l != line || c != column || e != code {
		t.Errorf("Place(%q, %d): %d, %d, %d, want %d, %d, %d", s, at, l, c, e, line, column, code)
	}
}

func expectWord(t *testing.T, s string, name, tag bool) {
	t.Helper()
	if Name(s) != name {
		t.Errorf("Name(%q): %v", s, !name)
	}
	if Tag(s) != tag {
		t.Errorf("Tag(%q): %v", s, !tag)
	}
}

// mixed is a text of up to n bytes: parts of characters, whole ones, LF and any bytes.
func mixed(source *rand.Rand, n int) string {
	parts := []string{"", "a", "\n", "\n", "é", "€", "\ufffd", "𝄞", "\x80", "\xbf", "\xc3", "\xe2\x82", "\xf0\x9d\x84", "\xff", "\xed\xa0\x80", "\xc0\x80", "\xef\xbf", "\xef\xbf\xbf"}
	var b strings.Builder
	for b.Len() < n {
		b.WriteString(parts[source.Intn(len(parts))])
		if source.Intn(8) == 0 {
			b.WriteByte(byte(source.Intn(256)))
		}
		if source.Intn(12) == 0 {
			break
		}
	}
	return b.String()
}

func TestP3_1Rows(t *testing.T) {
	for _, c := range []struct {
		s     string
		place int
		code  api.Errno
	}{
		{"", 0, api.OK},
		{"a", 0, api.OK},
		{"aé", 0, api.OK},
		{"a\xff", 1, api.ErrUtfByte},
		{"\xc3", 0, api.ErrUtfByte},
		{"\xed\xa0\x80", 0, api.ErrUtfByte},
		{"\xc0\x80", 0, api.ErrUtfByte},
		{"\x00", 0, api.OK},
		{"\x7f", 0, api.OK},
		{"\n\r\t", 0, api.OK},
		{"\ufeffa", 0, api.OK},
		// U+FFFD is a character as any other.
		{"\ufffd", 0, api.OK},
		{"a\ufffd\ufffdb", 0, api.OK},
		{"\ufffd\xff", 3, api.ErrUtfByte},
		{"\xff\ufffd", 0, api.ErrUtfByte},
		{"\ufffd\xef\xbf", 3, api.ErrUtfByte},
		{"\ufffe\uffff", 0, api.OK},
	} {
		expectValid(t, c.s, c.place, c.code)
	}
}

func TestP3_1FirstAndLastOfEachLength(t *testing.T) {
	for n := 1; n <= 4; n++ {
		for _, number := range []int{firsts[n-1], firsts[n] - 1} {
			s := spell(number, n)
			if s != string(rune(number)) {
				t.Fatalf("%x in %d bytes: %x", number, n, s)
			}
			expectValid(t, s, 0, api.OK)
			expectValid(t, "a"+s+s+"b", 0, api.OK)
		}
	}
	for _, s := range []string{"\ud7ff", "\ue000", "\U0010ffff", "\ud7ff\ue000\U0010ffff"} {
		expectValid(t, s, 0, api.OK)
	}
}

func TestP3_1WrongForms(t *testing.T) {
	for _, s := range []string{
		// Continuation bytes that stand alone.
		"\x80", "\xbf", "\x80\x80", "\xbf\xc3\xa9",
		// Forms that are too long.
		"\xc0\x80", "\xc0\xaf", "\xc1\xbf", "\xe0\x80\x80", "\xe0\x80\xaf", "\xe0\x9f\xbf", "\xf0\x80\x80\x80", "\xf0\x8f\xbf\xbf",
		// Surrogates, one and two.
		"\xed\xa0\x80", "\xed\xad\xbf", "\xed\xae\x80", "\xed\xaf\xbf", "\xed\xb0\x80", "\xed\xbf\xbf", "\xed\xa0\x80\xed\xb0\x80",
		// Above U+10FFFF.
		"\xf4\x90\x80\x80", "\xf4\xbf\xbf\xbf", "\xf5\x80\x80\x80", "\xf7\xbf\xbf\xbf",
		// Forms of five and six bytes, and bytes that begin nothing.
		"\xf8\x88\x80\x80\x80", "\xfc\x84\x80\x80\x80\x80", "\xfe", "\xff", "\xfe\xff",
	} {
		for _, ahead := range []string{"", "a", "é", "€", "𝄞", "\ufffd", "a\n"} {
			for _, behind := range []string{"", "a", "é", "\x80", "\xff"} {
				expectValid(t, ahead+s+behind, len(ahead), api.ErrUtfByte)
			}
		}
	}
}

// A character of which the last bytes are missing, at the end of the text and ahead of another one.
func TestP3_1Cut(t *testing.T) {
	for _, s := range []string{"\u0080", "é", "\u07ff", "\u0800", "€", "\ud7ff", "\ue000", "\ufffd", "\uffff", "\U00010000", "𝄞", "\U0010ffff"} {
		for n := 1; n < len(s); n++ {
			for _, ahead := range []string{"", "a", "é", s} {
				for _, behind := range []string{"", "a", "\x7f", "é", "€", "𝄞", "\ufffd", "\xff", s[:n], s} {
					expectValid(t, ahead+s[:n]+behind, len(ahead), api.ErrUtfByte)
				}
			}
		}
		// One continuation byte too many is the first that is wrong.
		expectValid(t, s+"\x80", len(s), api.ErrUtfByte)
	}
}

// Every number of every length: taken just where it is a character's shortest form.
func TestP3_1EveryCharacter(t *testing.T) {
	bits := [4]int{7, 11, 16, 21}
	taken := 0
	for n := 1; n <= 4; n++ {
		for number := range 1 << bits[n-1] {
			want := api.ErrUtfByte
			if character(number) == n {
				want = api.OK
				taken++
			}
			if at, e := Valid(spell(number, n)); at != 0 || e != want {
				t.Fatalf("Valid of %x in %d bytes: %d, %d, want 0, %d", number, n, at, e, want)
			}
		}
	}
	if taken != 0x110000-0x800 {
		t.Errorf("%d characters were taken", taken)
	}
}

// Every text of up to two bytes, and of three and four with the bytes at which the answer turns.
func TestP3_1EveryShortText(t *testing.T) {
	turns := []byte{0, 0x7f, 0x80, 0x8f, 0x90, 0x9f, 0xa0, 0xbd, 0xbf, 0xc0, 0xc2, 0xdf, 0xe0, 0xed, 0xef, 0xf0, 0xf4, 0xf5, 0xff}
	for first := range 256 {
		agreeValid(t, string([]byte{byte(first)}))
		for second := range 256 {
			s := string([]byte{byte(first), byte(second)})
			agreeValid(t, s)
			for _, third := range turns {
				agreeValid(t, s+string([]byte{third}))
				for _, fourth := range turns {
					agreeValid(t, s+string([]byte{third, fourth}))
				}
			}
		}
	}
}

func agreeValid(t *testing.T, s string) {
	place, code := asked(s)
	if at, e := Valid(s); at != place || e != code {
		t.Fatalf("Valid(%q): %d, %d, want %d, %d", s, at, e, place, code)
	}
	if utf8.ValidString(s) != (code == api.OK) {
		t.Fatalf("the library says otherwise of %q", s)
	}
}

func TestP3_1Mixed(t *testing.T) {
	source := rand.New(rand.NewSource(1))
	codes := map[api.Errno]int{}
	for range 50000 {
		s := mixed(source, 40)
		agreeValid(t, s)
		_, code := asked(s)
		codes[code]++
	}
	if codes[api.OK] < 1000 || codes[api.ErrUtfByte] < 1000 {
		t.Errorf("the answers are too much alike: %v", codes)
	}
}

func TestP3_1LargeText(t *testing.T) {
	s := strings.Repeat("aé€𝄞\ufffd", 1<<18)
	expectValid(t, s, 0, api.OK)
	if at, e := Valid(s + "\xff" + s); at != len(s) || e != api.ErrUtfByte {
		t.Errorf("Valid of a large text: %d, %d", at, e)
	}
}

func TestP3_2Rows(t *testing.T) {
	s := "ab\néx"
	for _, c := range []struct {
		s                string
		at, line, column int
		code             api.Errno
	}{
		{s, 0, 1, 1, api.OK},
		{s, 1, 1, 2, api.OK},
		{s, 2, 1, 3, api.OK},
		{s, 3, 2, 1, api.OK},
		{s, 4, 2, 2, api.OK},
		{s, 5, 2, 2, api.OK},
		{s, 6, 2, 3, api.OK},
		{s, 7, 0, 0, api.ErrUtfPlace},
		{"", 0, 1, 1, api.OK},
		{"", 1, 0, 0, api.ErrUtfPlace},
		{"", -1, 0, 0, api.ErrUtfPlace},
		{"a", 1, 1, 2, api.OK},
		{"a", 2, 0, 0, api.ErrUtfPlace},
		{"a", -1, 0, 0, api.ErrUtfPlace},
		{"a", math.MaxInt, 0, 0, api.ErrUtfPlace},
		{"a", math.MinInt, 0, 0, api.ErrUtfPlace},
		{"a\nb", -1, 0, 0, api.ErrUtfPlace},
		{"a\nb", 4, 0, 0, api.ErrUtfPlace},
	} {
		expectPlace(t, c.s, c.at, c.line, c.column, c.code)
	}
}

func TestP3_2LineFeeds(t *testing.T) {
	for _, c := range []struct {
		s                string
		at, line, column int
	}{
		{"\na", 0, 1, 1},
		{"\na", 1, 2, 1},
		{"\na", 2, 2, 2},
		{"a\n", 1, 1, 2},
		{"a\n", 2, 2, 1},
		{"\n", 0, 1, 1},
		{"\n", 1, 2, 1},
		{"\n\n", 1, 2, 1},
		{"\n\n", 2, 3, 1},
		{"ab\ncd\nef", 8, 3, 3},
		// Only LF ends a line.
		{"a\rb\fc\vd\u0085e\u2028f", 14, 1, 12},
		{"a\r\nb", 2, 1, 3},
		{"a\r\nb", 3, 2, 1},
	} {
		expectPlace(t, c.s, c.at, c.line, c.column, api.OK)
	}
}

func TestP3_2InsideCharacters(t *testing.T) {
	s := "é€𝄞"
	for at, column := range []int{1, 2, 2, 3, 3, 3, 4, 4, 4, 4} {
		expectPlace(t, s, at, 1, column, api.OK)
		expectPlace(t, s+"\n"+s, len(s)+1+at, 2, column, api.OK)
	}
}

// A text need not be valid: each byte counts by itself.
func TestP3_2EveryByte(t *testing.T) {
	for c := range 256 {
		one := string([]byte{byte(c)})
		line, column := 1, 2
		switch {
		case c == 10:
			line, column = 2, 1
		case c >= 128 && c <= 191:
			column = 1
		}
		expectPlace(t, one, 0, 1, 1, api.OK)
		expectPlace(t, one, 1, line, column, api.OK)
		expectPlace(t, one, 2, 0, 0, api.ErrUtfPlace)
		expectPlace(t, "\n\xff\x80"+one, 3, 2, 2, api.OK)
		expectPlace(t, "\n\xff\x80"+one+"\n\n", 4, line+1, column+min(1, 2-line), api.OK)
	}
}

func TestP3_2Mixed(t *testing.T) {
	source := rand.New(rand.NewSource(2))
	for range 3000 {
		s := mixed(source, 60)
		for at := -2; at <= len(s)+2; at++ {
			line, column, code := askedPlace(s, at)
			expectPlace(t, s, at, line, column, code)
		}
	}
}

func TestP3_2LargeText(t *testing.T) {
	s := strings.Repeat("aé\n", 1<<18)
	for _, c := range []struct{ at, line, column int }{{len(s), 1<<18 + 1, 1}, {len(s) - 1, 1 << 18, 3}, {len(s) - 2, 1 << 18, 3}, {len(s) - 4, 1 << 18, 1}} {
		if line, column, e := Place(s, c.at); line != c.line || column != c.column || e != api.OK {
			t.Errorf("Place of a large text at %d: %d, %d, %d", c.at, line, column, e)
		}
	}
	if line, column, e := Place(s, len(s)+1); line != 0 || column != 0 || e != api.ErrUtfPlace {
		t.Errorf("Place beyond a large text: %d, %d, %d", line, column, e)
	}
}

func TestP3_3Rows(t *testing.T) {
	for _, c := range []struct {
		s         string
		name, tag bool
	}{
		{"a_1", true, false},
		{"a-1", false, true},
		{"", false, false},
		{"1a", false, false},
		{"a", true, true},
		{"z", true, true},
		{"az09", true, true},
		{"a_", true, false},
		{"a-", false, true},
		{"a__b", true, false},
		{"a--b", false, true},
		{"a_-", false, false},
		{"a-_", false, false},
		{"_", false, false},
		{"-", false, false},
		{"_a", false, false},
		{"-a", false, false},
		{"0", false, false},
		{"9a", false, false},
		{"A", false, false},
		{"aB", false, false},
		{"a b", false, false},
		{"a ", false, false},
		{" a", false, false},
		{"a\n", false, false},
		{"a\x00", false, false},
		{"é", false, false},
		{"aé", false, false},
		{"a\xff", false, false},
		{"a.b", false, false},
	} {
		expectWord(t, c.s, c.name, c.tag)
	}
}

func TestP3_3Lengths(t *testing.T) {
	for n := range 70 {
		fits := n >= 1 && n <= api.MaxName
		a := strings.Repeat("a", n)
		expectWord(t, a, fits, fits)
		if n > 0 {
			expectWord(t, a[1:]+"9", fits && n > 1, fits && n > 1)
			expectWord(t, a[1:]+"_", fits && n > 1, false)
			expectWord(t, a[1:]+"-", false, fits && n > 1)
			expectWord(t, a[1:]+"A", false, false)
		}
	}
	expectWord(t, strings.Repeat("a", 1<<20), false, false)
}

func TestP3_3EveryByte(t *testing.T) {
	for c := range 256 {
		one := string([]byte{byte(c)})
		for _, s := range []string{one, one + "a", "a" + one, "a" + one + "a", strings.Repeat("a", api.MaxName-1) + one, one + strings.Repeat("a", api.MaxName-1)} {
			expectWord(t, s, askedWord(s, "_"), askedWord(s, "-"))
		}
	}
}

// words are texts of the bytes of names and tags, now and then with another one, about as long as a name may be.
func words() []string {
	const common = "abcdefghijklmnopqrstuvwxyz0123456789abcmxyz"
	source := rand.New(rand.NewSource(3))
	list := []string{""}
	for range 20000 {
		b := make([]byte, source.Intn(35))
		for i := range b {
			b[i] = common[source.Intn(len(common))]
			switch source.Intn(40) {
			case 0:
				b[i] = '_'
			case 1:
				b[i] = '-'
			case 2:
				b[i] = byte(source.Intn(256))
			}
		}
		list = append(list, string(b))
	}
	return list
}

func TestP3_3Mixed(t *testing.T) {
	names, tags := 0, 0
	for _, s := range words() {
		name, tag := askedWord(s, "_"), askedWord(s, "-")
		expectWord(t, s, name, tag)
		if name {
			names++
		}
		if tag {
			tags++
		}
	}
	if names < 1000 || tags < 1000 {
		t.Errorf("only %d names and %d tags", names, tags)
	}
}

func TestP3_4Joined(t *testing.T) {
	source := rand.New(rand.NewSource(4))
	var valid, others []string
	for len(valid) < 300 || len(others) < 300 {
		s := mixed(source, 12)
		if _, e := Valid(s); e == api.OK {
			valid = append(valid, s)
		} else {
			others = append(others, s)
		}
	}
	for _, a := range valid[:300] {
		for _, b := range valid[:300] {
			expectValid(t, a+b, 0, api.OK)
		}
		for _, b := range others[:300] {
			at, _ := Valid(b)
			expectValid(t, a+b, len(a)+at, api.ErrUtfByte)
		}
	}
}

// Two halves of one character are joined to what is valid, though neither is.
func TestP3_4Halves(t *testing.T) {
	for _, s := range []string{"é", "€", "𝄞", "\ufffd"} {
		for n := 1; n < len(s); n++ {
			expectValid(t, s[:n], 0, api.ErrUtfByte)
			expectValid(t, s[n:], 0, api.ErrUtfByte)
			expectValid(t, s[:n]+s[n:], 0, api.OK)
		}
	}
}

func TestP3_4NamesAndTags(t *testing.T) {
	both := 0
	for _, s := range words() {
		if Name(s) && !strings.Contains(s, "_") {
			both++
			if !Tag(s) {
				t.Errorf("the name %q without _ is no tag", s)
			}
		}
		if Tag(s) && !strings.Contains(s, "-") && !Name(s) {
			t.Errorf("the tag %q without - is no name", s)
		}
		if Name(s) && Name(strings.ReplaceAll(s, "_", "-")) != !strings.Contains(s, "_") {
			t.Errorf("the name %q with - for _", s)
		}
		if Name(s) && !Tag(strings.ReplaceAll(s, "_", "-")) {
			t.Errorf("the name %q with - for _ is no tag", s)
		}
		if _, e := Valid(s); (Name(s) || Tag(s)) && e != api.OK {
			t.Errorf("%q is not valid", s)
		}
	}
	if both < 1000 {
		t.Errorf("only %d names are tags", both)
	}
}

func TestR5ManyGoroutines(t *testing.T) {
	source := rand.New(rand.NewSource(5))
	var texts []string
	for range 300 {
		texts = append(texts, mixed(source, 40))
	}
	var group sync.WaitGroup
	for range 8 {
		group.Go(func() {
			for _, s := range texts {
				place, code := asked(s)
				expectValid(t, s, place, code)
				line, column, e := askedPlace(s, len(s)/2)
				expectPlace(t, s, len(s)/2, line, column, e)
				expectWord(t, s, askedWord(s, "_"), askedWord(s, "-"))
			}
		})
	}
	group.Wait()
}
