package forest

import (
	"math/rand"
	"regexp"
	"strconv"
	"strings"
	"unicode/utf8"

	"stencil/api"
)

// met is one node on the way through a forest.
type met struct {
	tree  api.Tree
	depth int
}

// flat lays fs out in preorder; it goes below nodes that may not be, too.
func flat(fs []api.Tree, depth int) []met {
	row := []met{}
	for _, tree := range fs {
		row = append(row, met{tree, depth})
		row = append(row, flat(tree.Kids, depth+1)...)
	}
	return row
}

var tagForm = regexp.MustCompile(`^[a-z][a-z0-9-]{0,31}$`)

func askedTag(s string) bool {
	return tagForm.MatchString(s) && !strings.HasSuffix(s, "\n")
}

func askedText(s string) bool {
	return len(s) < 4097 && utf8.ValidString(s)
}

func askedForm(tree api.Tree) bool {
	if tree.Tag == "" {
		return len(tree.Attrs)+len(tree.Kids) == 0 && askedText(tree.Text)
	}
	good := askedTag(tree.Tag) && tree.Text == ""
	for i, a := range tree.Attrs {
		good = good && askedTag(a.Name) && askedText(a.Value)
		for _, b := range tree.Attrs[:i] {
			good = good && b.Name < a.Name
		}
	}
	return good
}

// askedCheck is what P7.1 says of fs.
func askedCheck(fs []api.Tree) api.Errno {
	for i, m := range flat(fs, 1) {
		if i == 4096 {
			return api.ErrForestLarge
		}
		if m.depth > 64 {
			return api.ErrForestDeep
		}
		if !askedForm(m.tree) {
			return api.ErrForestForm
		}
	}
	return api.OK
}

// askedSize is what P7.3 says of fs: depth and count.
func askedSize(fs []api.Tree) (int, int) {
	if askedCheck(fs) != api.OK {
		return 0, 0
	}
	row, depth := flat(fs, 1), 0
	for _, m := range row {
		depth = max(depth, m.depth)
	}
	return depth, len(row)
}

// askedSame writes all that Same is to look at, each part with its length, so that two texts are one just if the forests are.
func askedSame(fs []api.Tree) string {
	out := strconv.Itoa(len(fs))
	part := func(s string) { out += ":" + strconv.Itoa(len(s)) + ":" + s }
	for _, tree := range fs {
		part(tree.Tag)
		part(tree.Text)
		out += "(" + strconv.Itoa(len(tree.Attrs))
		for _, a := range tree.Attrs {
			part(a.Name)
			part(a.Value)
		}
		out += ")" + askedSame(tree.Kids)
	}
	return out
}

var (
	inText = strings.NewReplacer("&", "&amp;", "<", "&lt;", ">", "&gt;", "{", "&lbrace;")
	inAttr = strings.NewReplacer("&", "&amp;", "<", "&lt;", ">", "&gt;", "{", "&lbrace;", `"`, "&quot;")
	back   = strings.NewReplacer("&amp;", "&", "&lt;", "<", "&gt;", ">", "&lbrace;", "{", "&quot;", `"`)
)

// askedHtml is what P7.4 says of a forest that may be.
func askedHtml(fs []api.Tree) string {
	out := ""
	for _, tree := range fs {
		if tree.Tag == "" {
			out += inText.Replace(tree.Text)
			continue
		}
		out += "<" + tree.Tag
		for _, a := range tree.Attrs {
			out += " " + a.Name + "=\"" + inAttr.Replace(a.Value) + "\""
		}
		out += ">" + askedHtml(tree.Kids) + "</" + tree.Tag + ">"
	}
	return out
}

var (
	opening = regexp.MustCompile(`^<([a-z][a-z0-9-]*)((?: [a-z][a-z0-9-]*="[^"]*")*)>`)
	oneAttr = regexp.MustCompile(` ([a-z][a-z0-9-]*)="([^"]*)"`)
)

// read is the forest that the HTML at the beginning of s says, with no empty text and no two texts side by side, and what is left of s.
func read(s string) ([]api.Tree, string) {
	var fs []api.Tree
	for s != "" && !strings.HasPrefix(s, "</") {
		if s[0] != '<' {
			end := strings.IndexByte(s+"<", '<')
			fs = append(fs, text(back.Replace(s[:end])))
			s = s[end:]
			continue
		}
		m := opening.FindStringSubmatch(s)
		if m == nil {
			return nil, s
		}
		tree := elem(m[1])
		for _, a := range oneAttr.FindAllStringSubmatch(m[2], -1) {
			tree.Attrs = append(tree.Attrs, api.Attr{Name: a[1], Value: back.Replace(a[2])})
		}
		tree.Kids, s = read(s[len(m[0]):])
		end := "</" + m[1] + ">"
		if !strings.HasPrefix(s, end) {
			return nil, s
		}
		s = s[len(end):]
		fs = append(fs, tree)
	}
	return fs, s
}

// apart is fs without empty texts, and with the first alone of texts that lie side by side.
func apart(fs []api.Tree) []api.Tree {
	var out []api.Tree
	for _, tree := range fs {
		tree.Kids = apart(tree.Kids)
		if tree.Tag != "" || tree.Text != "" && (len(out) == 0 || out[len(out)-1].Tag != "") {
			out = append(out, tree)
		}
	}
	return out
}

// maker makes forests; wild is how many of a thousand of its choices make something that may not be.
type maker struct {
	r    *rand.Rand
	wild int
}

func (m maker) odd() bool { return m.r.Intn(1000) < m.wild }

func (m maker) pick(of ...string) string { return of[m.r.Intn(len(of))] }

func (m maker) text() string {
	if m.odd() {
		return m.pick("\xff", "a\xc3", "\xed\xa0\x80", strings.Repeat("x", 4097))
	}
	if m.r.Intn(50) == 0 {
		return strings.Repeat("x", 4096)
	}
	out := ""
	for range m.r.Intn(4) {
		out += m.pick("a", "é", "&", "<", ">", "{", "\"", "&amp;", "&lt", "</p>", "<b>", "'", "=", " ", "\n", "/", "😀")
	}
	return out
}

func (m maker) tag() string {
	if m.odd() {
		return m.pick("P", "1", "-", "a_b", "a b", "é", "a\n", "a>", "\xff", strings.Repeat("a", 33))
	}
	return m.pick("p", "b", "h1", "x-y", "a-", "p-", strings.Repeat("a", 32))
}

func (m maker) attrs() []api.Attr {
	var attrs []api.Attr
	for _, name := range []string{"a", "a-", "a1", "aa", "b", strings.Repeat("c", 32)} {
		if m.r.Intn(4) == 0 {
			attrs = append(attrs, api.Attr{Name: name, Value: m.text()})
		}
	}
	if m.odd() && len(attrs) > 0 {
		attrs[m.r.Intn(len(attrs))].Name = m.pick("A", "", "b", "a")
	}
	return attrs
}

func (m maker) forest(room int) []api.Tree {
	var fs []api.Tree
	for range m.r.Intn(4) {
		var tree api.Tree
		isText := m.r.Intn(2) == 0
		if !isText {
			tree.Tag = m.tag()
		}
		if isText || m.odd() {
			tree.Text = m.text()
		}
		if !isText || m.odd() {
			tree.Attrs = m.attrs()
		}
		if room > 0 && (!isText || m.odd()) {
			tree.Kids = m.forest(room - 1)
		}
		fs = append(fs, tree)
	}
	return fs
}
