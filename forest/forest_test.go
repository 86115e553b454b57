package forest

import (
	"fmt"
	"math/rand"
	"reflect"
	"slices"
	"strconv"
	"strings"
	"sync"
	"testing"
	"time"

	"stencil/api"
)

func text(s string) api.Tree { return api.Tree{Text: s} }

func elem(tag string, kids ...api.Tree) api.Tree { return api.Tree{Tag: tag, Kids: kids} }

// with is tree with attributes: names and values by turns.
func with(tree api.Tree, pairs ...string) api.Tree {
	tree.Attrs = nil
	for i := 0; i < len(pairs); i += 2 {
		tree.Attrs = append(tree.Attrs, api.Attr{Name: pairs[i], Value: pairs[i+1]})
	}
	return tree
}

func list(fs ...api.Tree) []api.Tree { return fs }

// nest is fs with shells elements around it.
func nest(shells int, fs ...api.Tree) []api.Tree {
	for range shells {
		fs = list(elem("p", fs...))
	}
	return fs
}

// many is a forest of n texts.
func many(n int) []api.Tree { return make([]api.Tree, n) }

// wide is an element with n attributes.
func wide(n int) api.Tree {
	tree := elem("p")
	for i := range n {
		tree.Attrs = append(tree.Attrs, api.Attr{Name: fmt.Sprintf("a%09d", i), Value: "v"})
	}
	return tree
}

func long(n int) string { return strings.Repeat("a", n) }

// ordinary are forests that may be, with their depth, count and HTML.
var ordinary = []struct {
	fs           []api.Tree
	depth, count int
	html         string
}{
	{nil, 0, 0, ""},
	{[]api.Tree{}, 0, 0, ""},
	{list(text("")), 1, 1, ""},
	{list(text("x")), 1, 1, "x"},
	{list(api.Tree{Text: "x", Attrs: []api.Attr{}, Kids: []api.Tree{}}), 1, 1, "x"},
	{list(text("\x00")), 1, 1, "\x00"},
	{list(text("é€😀\ufffd")), 1, 1, "é€😀\ufffd"},
	{list(text("a"), text(""), text("b")), 1, 3, "ab"},
	{list(elem("p")), 1, 1, "<p></p>"},
	{list(api.Tree{Tag: "p", Attrs: []api.Attr{}, Kids: []api.Tree{}}), 1, 1, "<p></p>"},
	{list(elem("x-1-")), 1, 1, "<x-1-></x-1->"},
	{list(elem(long(api.MaxName))), 1, 1, "<" + long(32) + "></" + long(32) + ">"},
	{list(elem("p", text(""))), 2, 2, "<p></p>"},
	{list(elem("p"), elem("p")), 1, 2, "<p></p><p></p>"},
	{list(elem("p", elem("p"))), 2, 2, "<p><p></p></p>"},
	{list(elem("p", text("x"), elem("b", text("y"), elem("i")), text("z")), text("w")), 3, 7, "<p>x<b>y<i></i></b>z</p>w"},
	{list(text("w"), elem("p", elem("b", elem("i")), elem("b"))), 3, 5, "w<p><b><i></i></b><b></b></p>"},
	{list(with(elem("p"), "a", "")), 1, 1, `<p a=""></p>`},
	{list(with(elem("p"), "a", "1", "a-", "2", "a-b", "3", "a0", "4", "aa", "5", "b", "6")), 1, 1, `<p a="1" a-="2" a-b="3" a0="4" aa="5" b="6"></p>`},
	{list(with(elem("p", text("x<y"), elem("b")), "class", "a")), 2, 3, `<p class="a">x&lt;y<b></b></p>`},
	{list(with(elem("p"), long(api.MaxName), "v")), 1, 1, "<p " + long(32) + `="v"></p>`},
	{list(with(elem("p"), "a", long(api.MaxStr), "b", strings.Repeat("é", api.MaxStr/2))), 1, 1, `<p a="` + long(4096) + `" b="` + strings.Repeat("é", 2048) + `"></p>`},
	{list(text(long(api.MaxStr))), 1, 1, long(4096)},
	{list(text(strings.Repeat("é", api.MaxStr/2)), text(strings.Repeat("<", api.MaxStr))), 1, 2, strings.Repeat("é", 2048) + strings.Repeat("&lt;", 4096)},
	{nest(2*api.MaxNest-1, text("x")), 64, 64, strings.Repeat("<p>", 63) + "x" + strings.Repeat("</p>", 63)},
	{nest(2*api.MaxNest-1, elem("b")), 64, 64, strings.Repeat("<p>", 63) + "<b></b>" + strings.Repeat("</p>", 63)},
	{append(nest(2*api.MaxNest, many(0)...), text("x"), elem("b", text("y"))), 64, 67, strings.Repeat("<p>", 64) + strings.Repeat("</p>", 64) + "x<b>y</b>"},
	{many(api.MaxNodes), 1, 4096, ""},
	{list(elem("p", many(api.MaxNodes-1)...)), 2, 4096, "<p></p>"},
	{list(elem("p", many(2046)...), elem("b", many(2048)...)), 2, 4096, "<p></p><b></b>"},
	{nest(63, many(api.MaxNodes-63)...), 64, 4096, strings.Repeat("<p>", 63) + strings.Repeat("</p>", 63)},
	{list(wide(5000)), 1, 1, askedHtml(list(wide(5000)))},
}

// alone are trees that may not be for something of their own.
var alone = []api.Tree{
	elem("P"), elem("1"), elem("-a"), elem("a_b"), elem("a b"), elem(" a"), elem("a\n"), elem("a>"), elem("é"), elem("\xff"), elem("\x00"), elem("pP"),
	elem(long(api.MaxName + 1)),
	{Tag: "p", Text: "x"}, {Tag: "p", Text: "\xff"}, {Tag: "p", Text: "\x00"}, {Tag: "p", Text: " ", Kids: list(text("x"))},
	text("\xff"), text("a\xc3"), text("\x80"), text("\xed\xa0\x80"), text("\xc0\x80"), text("\xf4\x90\x80\x80"), text(long(api.MaxStr-1) + "\xc3"),
	text(long(api.MaxStr + 1)), text(strings.Repeat("é", api.MaxStr/2) + "a"),
	with(text(""), "a", "v"), with(text("x"), "a", "v"), with(text("x"), "", ""), with(text("x"), "A", "\xff"),
	{Kids: list(text(""))}, {Text: "x", Kids: list(text("y"))}, {Text: "x", Kids: list(elem("p"))},
	{Text: "x", Attrs: []api.Attr{{Name: "a"}}, Kids: list(elem("p"))},
	with(elem("p"), "b", "", "a", ""), with(elem("p"), "a", "", "a", ""), with(elem("p"), "a", "1", "a", "2"), with(elem("p"), "a", "2", "a", "1"),
	with(elem("p"), "a", "", "c", "", "b", ""), with(elem("p"), "a", "", "b", "", "b", ""), with(elem("p"), "b", "", "c", "", "a", ""),
	with(elem("p"), "aa", "", "a", ""), with(elem("p"), "a0", "", "a-", ""), with(elem("p"), "a1", "", "a0", ""), with(elem("p"), "a", "", "b", "", "a", ""),
	with(elem("p"), "", ""), with(elem("p"), "A", ""), with(elem("p"), "a_b", ""), with(elem("p"), "1", ""), with(elem("p"), "a=", ""), with(elem("p"), `a"`, ""), with(elem("p"), "é", ""),
	with(elem("p"), "a", "", "b ", ""), with(elem("p"), "A", "", "a", ""), with(elem("p"), "", "", "a", ""),
	with(elem("p"), long(api.MaxName+1), ""), with(elem("p"), "a", "", long(api.MaxName+1), ""),
	with(elem("p"), "a", "\xff"), with(elem("p"), "a", "", "b", "é\xc3"), with(elem("p"), "a", "\xff", "b", ""),
	with(elem("p"), "a", long(api.MaxStr+1)), with(elem("p"), "a", "", "b", strings.Repeat("é", api.MaxStr/2)+"a"),
	with(elem("P"), "a", ""), with(elem("p_", text("x")), "a", ""),
}

// expectOne holds Check, Count, Depth and Html of one forest against what is asked.
func expectOne(t *testing.T, name string, fs []api.Tree, code api.Errno, depth, count int, html string) {
	t.Helper()
	if e := Check(fs); e != code {
		t.Errorf("Check of %s: %d, want %d", name, e, code)
	}
	if d, n := Depth(fs), Count(fs); d != depth || n != count {
		t.Errorf("Depth, Count of %s: %d, %d, want %d, %d", name, d, n, depth, count)
	}
	if s, e := Html(fs); s != html || e != code {
		t.Errorf("Html of %s: %.200q, %d, want %.200q, %d", name, s, e, html, code)
	}
}

// expectCode is expectOne for what is refused: zeros beside the code.
func expectCode(t *testing.T, name string, fs []api.Tree, code api.Errno) {
	t.Helper()
	expectOne(t, name, fs, code, 0, 0, "")
}

func TestP7Rows(t *testing.T) {
	p := api.Tree{Tag: "p", Attrs: []api.Attr{{Name: "class", Value: "a"}}, Kids: []api.Tree{{Text: "x<y"}, {Tag: "b"}}}
	expectOne(t, "the row of Html", list(p), api.OK, 2, 3, `<p class="a">x&lt;y<b></b></p>`)
	expectCode(t, "Tag P", list(api.Tree{Tag: "P"}), api.ErrForestForm)
	expectCode(t, "Attrs b, a", list(with(elem("p"), "b", "", "a", "")), api.ErrForestForm)
	expectCode(t, "text with Kids", list(api.Tree{Text: "x", Kids: list(text("y"))}), api.ErrForestForm)
}

func TestP7_1P7_3P7_4Ordinary(t *testing.T) {
	for i, c := range ordinary {
		expectOne(t, "ordinary "+strconv.Itoa(i), c.fs, api.OK, c.depth, c.count, c.html)
		if asked := askedHtml(c.fs); asked != c.html {
			t.Errorf("ordinary %d: the second writer has %.200q", i, asked)
		}
	}
}

func TestP7_1Alone(t *testing.T) {
	for i, tree := range alone {
		name := "alone " + strconv.Itoa(i)
		expectCode(t, name, list(tree), api.ErrForestForm)
		expectCode(t, name+", behind others", list(elem("p", text("x")), text(""), tree), api.ErrForestForm)
		expectCode(t, name+", ahead of others", list(tree, elem("p", text("x"))), api.ErrForestForm)
		expectCode(t, name+" as a kid", list(elem("p", text(""), elem("b", tree))), api.ErrForestForm)
		expectCode(t, name+" at the greatest depth", nest(63, tree), api.ErrForestForm)
		expectCode(t, name+" below it", nest(64, tree), api.ErrForestDeep)
		expectCode(t, name+" as number MaxNodes", append(many(api.MaxNodes-1), tree), api.ErrForestForm)
		expectCode(t, name+" as number MaxNodes + 1", append(many(api.MaxNodes), tree), api.ErrForestLarge)
	}
}

// TestP7_1Tags asks of every byte whether it may begin a tag or stand in one, in tags and in attributes' names.
func TestP7_1Tags(t *testing.T) {
	for c := range 256 {
		for _, tag := range []string{string([]byte{byte(c)}), string([]byte{'a', byte(c)}), string([]byte{'a', byte(c), 'b'})} {
			want := api.ErrForestForm
			if askedTag(tag) {
				want = api.OK
			}
			for _, fs := range [][]api.Tree{list(elem(tag)), list(with(elem("p"), tag, "")), list(with(elem("p"), tag, "", "zz", ""))} {
				if e := Check(fs); e != want {
					t.Errorf("%q: %d, want %d", tag, e, want)
				}
			}
		}
	}
}

func TestP7_1Limits(t *testing.T) {
	for _, inner := range []api.Tree{text(""), text("x"), elem("p"), with(elem("b"), "a", "v")} {
		expectCode(t, "depth 2 MaxNest + 1", nest(2*api.MaxNest, inner), api.ErrForestDeep)
		expectCode(t, "depth 2 MaxNest + 1, last", append(list(text(""), elem("p", text(""))), nest(2*api.MaxNest, text(""), inner)...), api.ErrForestDeep)
		expectCode(t, "depth 2 MaxNest + 1, first", append(nest(2*api.MaxNest, inner), text("x")), api.ErrForestDeep)
		expectCode(t, "number MaxNodes + 1", append(many(api.MaxNodes), inner), api.ErrForestLarge)
		expectCode(t, "number MaxNodes + 1 as a kid", list(elem("p", append(many(api.MaxNodes-1), inner)...)), api.ErrForestLarge)
		expectCode(t, "number MaxNodes + 1 behind kids", list(elem("p", many(api.MaxNodes-1)...), inner), api.ErrForestLarge)
	}
	expectCode(t, "far more", many(100*api.MaxNodes), api.ErrForestLarge)
	expectCode(t, "far deeper", nest(1000, text("")), api.ErrForestDeep)
	expectCode(t, "in two lists", list(elem("p", many(2047)...), elem("b", many(2048)...)), api.ErrForestLarge)
}

// TestP7_1Order holds several faults in one forest against each other, in each order.
func TestP7_1Order(t *testing.T) {
	faults := [][]api.Tree{list(elem("P")), nest(70, text("")), many(2 * api.MaxNodes)}
	codes := []api.Errno{api.ErrForestForm, api.ErrForestDeep, api.ErrForestLarge}
	for i, first := range faults {
		for _, second := range faults {
			expectCode(t, "two in a row", slices.Concat(list(text("")), first, second), codes[i])
			expectCode(t, "two, the first lying deeper", append(list(elem("p", first...)), second...), codes[i])
			expectCode(t, "two, the second lying deeper", append(slices.Clone(first), elem("p", second...)), codes[i])
		}
		for j, tree := range alone {
			if tree.Tag == "" {
				tree.Kids = append(list(text("")), first...)
			} else {
				tree.Kids = first
			}
			expectCode(t, "alone "+strconv.Itoa(j)+" ahead of its kids", list(tree), api.ErrForestForm)
		}
	}
	last := append(many(api.MaxNodes-64), nest(64, text("x"))...)
	expectCode(t, "number MaxNodes + 1 at depth 2 MaxNest + 1", last, api.ErrForestLarge)
	expectCode(t, "number MaxNodes at depth 2 MaxNest + 1", last[1:], api.ErrForestDeep)
	wrong := append(many(api.MaxNodes-64), nest(64, elem("P"))...)
	expectCode(t, "all three", wrong, api.ErrForestLarge)
	expectCode(t, "a form at depth 2 MaxNest + 1", wrong[1:], api.ErrForestDeep)
	expectCode(t, "a form as number MaxNodes + 1", append(many(api.MaxNodes), elem("P")), api.ErrForestLarge)
}

func TestP7_1P7_3P7_4Random(t *testing.T) {
	codes := map[api.Errno]int{}
	for _, wild := range []int{0, 2, 10, 50} {
		m := maker{rand.New(rand.NewSource(int64(wild))), wild}
		for range 3000 {
			fs := m.forest(4)
			if m.r.Intn(6) == 0 {
				fs = nest(58+m.r.Intn(8), fs...)
			}
			if m.r.Intn(24) == 0 {
				at := m.r.Intn(len(fs) + 1)
				fs = slices.Insert(fs, at, many(api.MaxNodes-m.r.Intn(20))...)
			}
			code, html := askedCheck(fs), ""
			if code == api.OK {
				html = askedHtml(fs)
			}
			depth, count := askedSize(fs)
			codes[code]++
			expectOne(t, "a random forest", fs, code, depth, count, html)
		}
	}
	for _, code := range []api.Errno{api.OK, api.ErrForestForm, api.ErrForestDeep, api.ErrForestLarge} {
		if codes[code] < 100 {
			t.Errorf("code %d was met %d times alone", code, codes[code])
		}
	}
}

func expectSame(t *testing.T, name string, a, b []api.Tree, want bool) {
	t.Helper()
	if Same(a, b) != want || Same(b, a) != want {
		t.Errorf("Same, %s: want %v", name, want)
	}
}

// copied is fs in memory of its own.
func copied(fs []api.Tree) []api.Tree {
	var out []api.Tree
	for _, tree := range fs {
		tree.Attrs = append([]api.Attr{}, tree.Attrs...)
		tree.Kids = copied(tree.Kids)
		out = append(out, tree)
	}
	return out
}

// small is a set of forests among which many are the same, of those that may be and of others.
func small() [][]api.Tree {
	var all [][]api.Tree
	for _, c := range ordinary[:24] {
		all = append(all, c.fs, copied(c.fs))
	}
	for _, tree := range alone {
		all = append(all, list(tree), list(elem("p", tree)))
	}
	for _, wild := range []int{0, 50} {
		m := maker{rand.New(rand.NewSource(5)), wild}
		for range 60 {
			all = append(all, m.forest(1))
		}
	}
	return all
}

func TestP7_2All(t *testing.T) {
	all := small()
	asked := make([]string, len(all))
	for i, fs := range all {
		asked[i] = askedSame(fs)
	}
	equal := 0
	for i, a := range all {
		expectSame(t, "a copy", a, copied(a), true)
		for j, b := range all {
			expectSame(t, strconv.Itoa(i)+" and "+strconv.Itoa(j), a, b, asked[i] == asked[j])
			if i != j && asked[i] == asked[j] {
				equal++
			}
		}
	}
	if equal < 50 {
		t.Errorf("only %d pairs were the same", equal)
	}
}

func TestP7_2Parts(t *testing.T) {
	inner := with(elem("b", text("x"), elem("i")), "a", "1", "b", "2")
	a := list(elem("p", inner, text("y")), text("z"))
	for i, b := range [][]api.Tree{
		nil, a[:1], a[1:], list(a[1], a[0]), append(copied(a), text("")), append(list(text("")), a...),
		list(elem("q", inner, text("y")), text("z")),
		list(elem("p", inner, text("Y")), text("z")),
		list(elem("p", inner, text("y")), text("")),
		list(elem("p", inner), text("y"), text("z")),
		list(elem("p", inner, text("y"), text("z"))),
		list(elem("p", inner, elem("y")), text("z")),
		list(elem("p", text("y"), inner), text("z")),
		list(elem("p", with(inner, "a", "1"), text("y")), text("z")),
		list(elem("p", with(inner, "a", "1", "b", "3"), text("y")), text("z")),
		list(elem("p", with(inner, "a", "1", "c", "2"), text("y")), text("z")),
		list(elem("p", with(inner, "b", "2", "a", "1"), text("y")), text("z")),
		list(elem("p", with(inner, "a", "2", "b", "1"), text("y")), text("z")),
		list(elem("p", with(inner, "a", "1", "b", "2", "c", "3"), text("y")), text("z")),
		list(elem("p", with(inner), text("y")), text("z")),
		list(with(elem("p", inner, text("y")), "a", ""), text("z")),
		list(elem("p", with(elem("b", text("x")), "a", "1", "b", "2"), text("y")), text("z")),
		list(elem("p", with(elem("b", text("x"), elem("i"), text("")), "a", "1", "b", "2"), text("y")), text("z")),
		list(elem("p", with(elem("b", elem("i"), text("x")), "a", "1", "b", "2"), text("y")), text("z")),
		list(api.Tree{Tag: "p", Text: "t", Kids: a[0].Kids}, text("z")),
		list(api.Tree{Kids: a[0].Kids}, text("z")),
	} {
		expectSame(t, "unlike part "+strconv.Itoa(i), a, b, false)
	}
	expectSame(t, "none and nil", nil, []api.Tree{}, true)
	expectSame(t, "none and an empty text", nil, list(text("")), false)
	expectSame(t, "empty lists and nil", list(elem("p")), list(api.Tree{Tag: "p", Attrs: []api.Attr{}, Kids: []api.Tree{}}), true)
	expectSame(t, "texts cut otherwise", list(text("ab"), text("")), list(text("a"), text("b")), false)
	expectSame(t, "a text and an element of that name", list(text("p")), list(elem("p")), false)
	expectSame(t, "a name and a value cut otherwise", list(with(elem("p"), "ab", "c")), list(with(elem("p"), "a", "bc")), false)
}

func TestP7_2MayNotBe(t *testing.T) {
	for i, tree := range alone {
		expectSame(t, "alone "+strconv.Itoa(i), list(tree), copied(list(tree)), true)
		expectSame(t, "alone "+strconv.Itoa(i)+" as a kid", list(elem("p", tree)), list(elem("p", tree)), true)
		expectSame(t, "alone "+strconv.Itoa(i)+" and none", list(tree), nil, false)
		expectSame(t, "alone "+strconv.Itoa(i)+" and an empty text", list(tree), list(text("")), false)
	}
	expectSame(t, "invalid texts", list(text("\xff")), list(text("\xfe")), false)
	expectSame(t, "an invalid text and U+FFFD", list(text("\xff")), list(text("\ufffd")), false)
	expectSame(t, "kids of texts", list(api.Tree{Kids: list(text("x"))}), list(api.Tree{Kids: list(text("y"))}), false)
	expectSame(t, "attributes of texts", list(with(text("x"), "a", "1")), list(with(text("x"), "a", "2")), false)
	expectSame(t, "attributes in another row", list(with(elem("p"), "b", "", "a", "")), list(with(elem("p"), "a", "", "b", "")), false)
	expectSame(t, "too many", many(5000), many(5000), true)
	expectSame(t, "too many, the last unlike", many(5000), append(many(4999), elem("p")), false)
	expectSame(t, "too many, one less", many(5000), many(4999), false)
	expectSame(t, "too deep", nest(100, text("x")), nest(100, text("x")), true)
	expectSame(t, "too deep, unlike", nest(100, text("x")), nest(100, text("y")), false)
	expectSame(t, "too deep, one less", nest(100, text("x")), nest(99, text("x")), false)
}

// TestP7_4Bytes writes every character of one byte, and some of more, in a text and in a value.
func TestP7_4Bytes(t *testing.T) {
	escapes := map[rune]string{'&': "&amp;", '<': "&lt;", '>': "&gt;", '{': "&lbrace;"}
	for r := rune(0); r < 0x300; r++ {
		s := string(r)
		inside, ok := escapes[r]
		if !ok {
			inside = s
		}
		value := inside
		if r == '"' {
			value = "&quot;"
		}
		for _, around := range []string{"", "x", "é"} {
			tree := with(elem("p", text(around+s+around)), "a", around+s+around)
			want := `<p a="` + around + value + around + `">` + around + inside + around + "</p>"
			expectOne(t, strconv.Quote(s), list(tree), api.OK, 2, 2, want)
		}
	}
	odd := `&<>{"&amp;&quot;}'`
	expectOne(t, "all of them", list(text(odd), with(elem("p"), "a", odd)), api.OK, 1, 2,
		`&amp;&lt;&gt;&lbrace;"&amp;amp;&amp;quot;}'<p a="&amp;&lt;&gt;&lbrace;&quot;&amp;amp;&amp;quot;}'"></p>`)
}

func TestP7_5Joined(t *testing.T) {
	m := maker{rand.New(rand.NewSource(3)), 0}
	for range 2000 {
		fs := m.forest(3)
		whole, e := Html(fs)
		if e != api.OK {
			t.Fatal(e)
		}
		parts := ""
		for i := range fs {
			part, _ := Html(fs[i : i+1])
			parts += part
		}
		if whole != parts {
			t.Errorf("%q as a whole, %q tree by tree", whole, parts)
		}
		for cut := range len(fs) + 1 {
			head, _ := Html(fs[:cut])
			tail, _ := Html(fs[cut:])
			if head+tail != whole {
				t.Errorf("cut at %d: %q and %q, not %q", cut, head, tail, whole)
			}
		}
	}
}

// TestP7_5One reads HTML back: what comes of it is the forest, so no other of this kind has the same HTML.
func TestP7_5One(t *testing.T) {
	m := maker{rand.New(rand.NewSource(4)), 0}
	kept := map[string][]api.Tree{}
	twice := 0
	check := func(fs []api.Tree) {
		s, e := Html(fs)
		if got, rest := read(s); e != api.OK || rest != "" || !Same(got, fs) {
			t.Errorf("%.200q is read as %.200v", s, got)
		}
		if other, ok := kept[s]; ok {
			twice++
			if !Same(other, fs) {
				t.Errorf("%.200q is the HTML of two: %.200v and %.200v", s, other, fs)
			}
		}
		kept[s] = fs
	}
	for range 4000 {
		check(apart(m.forest(3)))
		check(apart(m.forest(1)))
	}
	for _, c := range ordinary {
		check(apart(c.fs))
	}
	if twice < 100 {
		t.Errorf("only %d were met twice", twice)
	}
}

// roomy is fs in memory of its own, with spare room behind each list that holds marks.
func roomy(fs []api.Tree) []api.Tree {
	trees := make([]api.Tree, 0, len(fs)+3)
	for _, tree := range fs {
		attrs := append(make([]api.Attr, 0, len(tree.Attrs)+3), tree.Attrs...)
		for i := range 3 {
			attrs[:cap(attrs)][len(attrs)+i] = api.Attr{Name: "mark", Value: "mark"}
		}
		tree.Attrs, tree.Kids = attrs, roomy(tree.Kids)
		trees = append(trees, tree)
	}
	for i := range 3 {
		trees[:cap(trees)][len(trees)+i] = with(elem("mark", text("mark")), "mark", "mark")
	}
	return trees
}

// opened is fs with the spare room of each of its lists as part of it.
func opened(fs []api.Tree) []api.Tree {
	trees := []api.Tree{}
	for _, tree := range fs[:cap(fs)] {
		tree.Attrs = append([]api.Attr{}, tree.Attrs[:cap(tree.Attrs)]...)
		tree.Kids = opened(tree.Kids)
		trees = append(trees, tree)
	}
	return trees
}

// spoil overwrites all that the lists of fs hold, their spare room too.
func spoil(fs []api.Tree) {
	for i, tree := range fs[:cap(fs)] {
		spoil(tree.Kids)
		for j := range tree.Attrs[:cap(tree.Attrs)] {
			tree.Attrs[:cap(tree.Attrs)][j] = api.Attr{Name: "spoilt"}
		}
		fs[:cap(fs)][i] = text("spoilt")
	}
}

func TestR4ArgumentsStay(t *testing.T) {
	for i, plain := range small() {
		fs, other := roomy(plain), roomy(plain)
		before := opened(fs)
		code, depth, count := Check(fs), Depth(fs), Count(fs)
		html, _ := Html(fs)
		Same(fs, other)
		Same(fs, fs)
		Same(fs, roomy(list(text("x"))))
		if !reflect.DeepEqual(opened(fs), before) || !reflect.DeepEqual(opened(other), before) {
			t.Errorf("forest %d was changed", i)
		}
		kept := strings.Clone(html)
		spoil(fs)
		if html != kept {
			t.Errorf("forest %d: its HTML shares memory with it", i)
		}
		expectOne(t, "a forest whose copy was spoilt", other, code, depth, count, html)
	}
}

// TestR4NotKept changes a forest between two calls: the second knows nothing of what was there.
func TestR4NotKept(t *testing.T) {
	fs := list(with(elem("p", text("x")), "a", "v"))
	expectOne(t, "as it was", fs, api.OK, 2, 2, `<p a="v">x</p>`)
	fs[0].Kids[0].Text, fs[0].Attrs[0].Value = "y", "w"
	expectOne(t, "with other texts", fs, api.OK, 2, 2, `<p a="w">y</p>`)
	fs[0].Kids[0].Kids = list(text(""))
	expectCode(t, "with a wrong kid", fs, api.ErrForestForm)
	fs[0].Kids = nil
	expectOne(t, "without kids", fs, api.OK, 1, 1, `<p a="w"></p>`)
}

func TestR1Deep(t *testing.T) {
	fs := nest(4095, text("a"))
	expectCode(t, "4096 deep", fs, api.ErrForestDeep)
	expectSame(t, "4096 deep", fs, nest(4095, text("a")), true)
	expectSame(t, "4096 deep, unlike", fs, nest(4095, text("b")), false)
	expectCode(t, "a text above 4096", list(api.Tree{Kids: fs}), api.ErrForestForm)
	expectCode(t, "4096 deep, texts alone", func() []api.Tree {
		fs := list(text("a"))
		for range 4095 {
			fs = list(api.Tree{Kids: fs})
		}
		return fs
	}(), api.ErrForestForm)
	expectCode(t, "wide and deep", slices.Concat(many(4000), fs), api.ErrForestDeep)
}

// shared is a forest whose every node has the same kids, in one list: it takes little room, but has very many nodes.
func shared(levels int) []api.Tree {
	fs := list(text("x"))
	for range levels {
		fs = list(elem("p", fs...), elem("b", fs...))
	}
	return fs
}

// TestR1Size asks for times that a cost of the square of the size would break by far.
func TestR1Size(t *testing.T) {
	start := time.Now()
	expectCode(t, "very many nodes", shared(50), api.ErrForestLarge)
	expectCode(t, "very many nodes, too deep", shared(70), api.ErrForestDeep)
	expectCode(t, "a million trees", many(1<<20), api.ErrForestLarge)
	expectSame(t, "a million trees", many(1<<20), many(1<<20), true)
	expectCode(t, "a long text", list(text(strings.Repeat("é", 1<<26))), api.ErrForestForm)
	expectCode(t, "a long value", list(with(elem("p"), "a", strings.Repeat("é", 1<<26))), api.ErrForestForm)
	expectCode(t, "a long tag", list(elem(long(1<<26))), api.ErrForestForm)
	expectSame(t, "many attributes", list(wide(200000)), list(wide(200000)), true)
	if s, e := Html(list(wide(200000))); len(s) != 200000*15+7 || e != api.OK {
		t.Errorf("many attributes: %d bytes, %d", len(s), e)
	}
	full := many(api.MaxNodes)
	for i := range full {
		full[i] = text(strings.Repeat("{", api.MaxStr))
	}
	if s, e := Html(full); len(s) != 8*api.MaxStr*api.MaxNodes || e != api.OK {
		t.Errorf("the longest texts: %d bytes, %d", len(s), e)
	}
	if spent := time.Since(start); spent > 20*time.Second {
		t.Errorf("it took %v", spent)
	}
}

func TestR5Goroutines(t *testing.T) {
	fs := list(with(elem("p", text("x<y"), elem("b")), "class", "a"), text("z"))
	var group sync.WaitGroup
	for range 8 {
		group.Go(func() {
			for range 200 {
				s, _ := Html(fs)
				if Check(fs) != api.OK || Depth(fs) != 2 || Count(fs) != 4 || !Same(fs, fs) || s != `<p class="a">x&lt;y<b></b></p>z` {
					t.Error("an answer changed")
				}
			}
		})
	}
	group.Wait()
}
