package dom

import (
	"fmt"
	"math/rand"
	"reflect"
	"regexp"
	"slices"
	"sort"
	"testing"
	"unicode/utf8"

	"stencil/api"
)

// node is a live handle's node, with its kids in a list of their own in place of links.
type node struct {
	tag, text string
	attrs     map[string]string
	kids      []int
	parent    int
}

// arena is a second arena, without links, whose free list's first handle stands first: what the answers are held against.
type arena struct {
	room   int
	nodes  map[int]*node
	free   []int
	counts api.Counts
}

func newArena(room int) *arena {
	m := &arena{room: room, nodes: map[int]*node{0: {parent: -1}}}
	for h := 1; h < room; h++ {
		m.free = append(m.free, h)
	}
	return m
}

// flat are the trees of t in preorder.
func flat(t api.Tree) []api.Tree {
	all := []api.Tree{}
	var visit func(api.Tree)
	visit = func(one api.Tree) {
		all = append(all, one)
		for _, kid := range one.Kids {
			visit(kid)
		}
	}
	visit(t)
	return all
}

func depthOf(t api.Tree) int {
	deepest := 0
	for _, kid := range t.Kids {
		deepest = max(deepest, depthOf(kid))
	}
	return deepest + 1
}

var tagForm = regexp.MustCompile(`^[a-z][a-z0-9-]{0,31}$`)

func askedTag(s string) bool { return tagForm.MatchString(s) }

func askedText(s string) bool { return utf8.ValidString(s) && len(s) <= 4096 }

func askedTree(t api.Tree) bool {
	all := flat(t)
	for _, one := range all {
		if one.Tag == "" && (len(one.Attrs) > 0 || len(one.Kids) > 0 || !askedText(one.Text)) {
			return false
		}
		if one.Tag != "" && (!askedTag(one.Tag) || one.Text != "") {
			return false
		}
		for i, attr := range one.Attrs {
			if !askedTag(attr.Name) || !askedText(attr.Value) || i > 0 && one.Attrs[i-1].Name >= attr.Name {
				return false
			}
		}
	}
	return len(all) <= 4096 && depthOf(t) <= 64
}

func (m *arena) live(handles ...int) bool {
	for _, h := range handles {
		if m.nodes[h] == nil {
			return false
		}
	}
	return true
}

func (m *arena) isText(h int) bool { return h != 0 && m.nodes[h].tag == "" }

// below are h and all below it, in preorder.
func (m *arena) below(h int) []int {
	all := []int{h}
	for _, kid := range m.nodes[h].kids {
		all = append(all, m.below(kid)...)
	}
	return all
}

func (m *arena) build(t api.Tree) (int, api.Errno) {
	if !askedTree(t) {
		return 0, api.ErrDomTree
	}
	n := len(flat(t))
	if n > len(m.free) {
		return 0, api.ErrDomFull
	}
	m.counts.Created += n
	return m.put(t, -1), api.OK
}

func (m *arena) put(t api.Tree, parent int) int {
	h := m.free[0]
	m.free = slices.Clone(m.free[1:])
	made := &node{tag: t.Tag, text: t.Text, attrs: map[string]string{}, parent: parent}
	for _, attr := range t.Attrs {
		made.attrs[attr.Name] = attr.Value
	}
	m.nodes[h] = made
	for _, kid := range t.Kids {
		made.kids = append(made.kids, m.put(kid, h))
	}
	return h
}

// insert sets h into parent's kids.
func (m *arena) insert(parent, h, before int) {
	var kids []int
	for _, kid := range m.nodes[parent].kids {
		if kid == before {
			kids = append(kids, h)
		}
		kids = append(kids, kid)
	}
	if before == -1 {
		kids = append(kids, h)
	}
	m.nodes[parent].kids = kids
	m.nodes[h].parent = parent
}

// without takes h out of its parent's kids.
func (m *arena) without(h int) {
	var kids []int
	parent := m.nodes[h].parent
	for _, kid := range m.nodes[parent].kids {
		if kid != h {
			kids = append(kids, kid)
		}
	}
	m.nodes[parent].kids = kids
}

func (m *arena) place(parent, h, before int) api.Errno {
	switch {
	case !m.live(parent, h) || before != -1 && !m.live(before):
		return api.ErrDomNode
	case m.isText(parent):
		return api.ErrDomKind
	case h == 0:
		return api.ErrDomRoot
	case m.nodes[h].parent != -1:
		return api.ErrDomPlaced
	case slices.Contains(m.below(h), parent):
		return api.ErrDomCycle
	case before != -1 && !slices.Contains(m.nodes[parent].kids, before):
		return api.ErrDomBefore
	}
	m.insert(parent, h, before)
	m.counts.Placed++
	return api.OK
}

func (m *arena) move(h, before int) api.Errno {
	switch {
	case !m.live(h) || before != -1 && !m.live(before):
		return api.ErrDomNode
	case h == 0:
		return api.ErrDomRoot
	case m.nodes[h].parent == -1:
		return api.ErrDomPlaced
	case before != -1 && !slices.Contains(m.nodes[m.nodes[h].parent].kids, before):
		return api.ErrDomBefore
	}
	if h != before {
		m.without(h)
		m.insert(m.nodes[h].parent, h, before)
	}
	m.counts.Moved++
	return api.OK
}

func (m *arena) remove(h int) api.Errno {
	if !m.live(h) {
		return api.ErrDomNode
	}
	if h == 0 {
		return api.ErrDomRoot
	}
	gone := m.below(h)
	if m.nodes[h].parent != -1 {
		m.without(h)
	}
	for _, one := range gone {
		delete(m.nodes, one)
	}
	m.free = slices.Concat(gone, m.free)
	m.counts.Removed++
	m.counts.Freed += len(gone)
	return api.OK
}

func (m *arena) setAttr(h int, name, value string) api.Errno {
	switch {
	case !m.live(h):
		return api.ErrDomNode
	case h == 0 || m.isText(h):
		return api.ErrDomKind
	case !askedTag(name) || !askedText(value):
		return api.ErrDomAttr
	}
	m.nodes[h].attrs[name] = value
	m.counts.Attrs++
	return api.OK
}

func (m *arena) dropAttr(h int, name string) api.Errno {
	switch {
	case !m.live(h):
		return api.ErrDomNode
	case h == 0 || m.isText(h):
		return api.ErrDomKind
	}
	if _, ok := m.nodes[h].attrs[name]; !ok {
		return api.ErrDomAttr
	}
	delete(m.nodes[h].attrs, name)
	m.counts.Attrs++
	return api.OK
}

func (m *arena) setText(h int, text string) api.Errno {
	switch {
	case !m.live(h):
		return api.ErrDomNode
	case !m.isText(h):
		return api.ErrDomKind
	case !askedText(text):
		return api.ErrDomAttr
	}
	m.nodes[h].text = text
	m.counts.Texts++
	return api.OK
}

func (m *arena) attrs(h int) []api.Attr {
	list := []api.Attr{}
	for name, value := range m.nodes[h].attrs {
		list = append(list, api.Attr{Name: name, Value: value})
	}
	sort.Slice(list, func(i, j int) bool { return list[i].Name < list[j].Name })
	return list
}

// neighbour is what stands by away from h among its parent's kids.
func (m *arena) neighbour(h, by int) int {
	if m.nodes[h].parent == -1 {
		return -1
	}
	kids := m.nodes[m.nodes[h].parent].kids
	at := slices.Index(kids, h) + by
	if at < 0 || at >= len(kids) {
		return -1
	}
	return kids[at]
}

func (m *arena) cell(h int) api.Cell {
	n := m.nodes[h]
	if n == nil {
		return api.Cell{Attrs: []api.Attr{}}
	}
	c := api.Cell{Live: true, Tag: n.tag, Text: n.text, Attrs: m.attrs(h), Parent: n.parent, First: -1, Last: -1, Prev: m.neighbour(h, -1), Next: m.neighbour(h, 1)}
	if len(n.kids) > 0 {
		c.First, c.Last = n.kids[0], n.kids[len(n.kids)-1]
	}
	return c
}

func (m *arena) trees(h int) []api.Tree {
	fs := []api.Tree{}
	for _, kid := range m.nodes[h].kids {
		fs = append(fs, api.Tree{Tag: m.nodes[kid].tag, Text: m.nodes[kid].text, Attrs: m.attrs(kid), Kids: m.trees(kid)})
	}
	return fs
}

// picture is all that an arena tells of itself; its lists are empty ones, not nil.
type picture struct {
	cells  []api.Cell
	free   []int
	counts api.Counts
	forest []api.Tree
}

func (m *arena) picture() picture {
	p := picture{cells: []api.Cell{}, free: append([]int{}, m.free...), counts: m.counts, forest: m.trees(0)}
	for h := range m.room {
		p.cells = append(p.cells, m.cell(h))
	}
	return p
}

// full is fs with empty lists in place of nil, in memory of its own.
func full(fs []api.Tree) []api.Tree {
	trees := []api.Tree{}
	for _, tree := range fs {
		tree.Attrs, tree.Kids = append([]api.Attr{}, tree.Attrs...), full(tree.Kids)
		trees = append(trees, tree)
	}
	return trees
}

func pictureOf(x *Dom) picture {
	p := picture{cells: []api.Cell{}, free: append([]int{}, x.Free()...), counts: x.Counts(), forest: full(x.Forest())}
	for _, c := range x.Cells() {
		c.Attrs = append([]api.Attr{}, c.Attrs...)
		p.cells = append(p.cells, c)
	}
	return p
}

// fault is what of p may not be, whatever was called (P8.8); "" if nothing.
func (p picture) fault() string {
	met := make([]int, len(p.cells))
	for _, h := range p.free {
		if h < 1 || h >= len(p.cells) || p.cells[h].Live {
			return fmt.Sprintf("%d in the free list", h)
		}
		met[h]++
	}
	live := 0
	for h, c := range p.cells {
		if c.Live {
			met[h]++
			live++
			if s := p.linkFault(h, c); s != "" {
				return s
			}
		}
		if met[h] != 1 {
			return fmt.Sprintf("%d is live or free %d times", h, met[h])
		}
	}
	if !p.cells[0].Live || p.counts.Created-p.counts.Freed != live-1 {
		return fmt.Sprintf("%d live, counted %v", live, p.counts)
	}
	return ""
}

// linkFault tells whether the links from h lead to nodes that lead back.
func (p picture) linkFault(h int, c api.Cell) string {
	wrong := fmt.Sprintf("links of %d: %+v", h, c)
	if c.Parent != -1 && !p.cells[c.Parent].Live || (c.First == -1) != (c.Last == -1) {
		return wrong
	}
	last := -1
	for kid := c.First; kid != -1; kid = p.cells[kid].Next {
		one := p.cells[kid]
		if !one.Live || one.Parent != h || one.Prev != last {
			return wrong
		}
		last = kid
	}
	if last != c.Last || c.Parent == -1 && (c.Prev != -1 || c.Next != -1) {
		return wrong
	}
	return ""
}

// call is a method with its arguments.
type call struct {
	name    string
	a, b, c int
	s, v    string
	tree    api.Tree
}

func (k call) String() string {
	return fmt.Sprintf("%s(%d, %d, %d, %.20q, %.20q, %.60v)", k.name, k.a, k.b, k.c, k.s, k.v, k.tree)
}

// answer is what a method answers.
type answer struct {
	handle int
	kids   string
	code   api.Errno
}

func (k call) run(x *Dom) answer {
	var got answer
	switch k.name {
	case "Build":
		got.handle, got.code = x.Build(k.tree)
	case "Place":
		got.code = x.Place(k.a, k.b, k.c)
	case "Move":
		got.code = x.Move(k.a, k.b)
	case "Remove":
		got.code = x.Remove(k.a)
	case "SetAttr":
		got.code = x.SetAttr(k.a, k.s, k.v)
	case "DropAttr":
		got.code = x.DropAttr(k.a, k.s)
	case "SetText":
		got.code = x.SetText(k.a, k.s)
	case "Kids":
		var kids []int
		kids, got.code = x.Kids(k.a)
		got.kids = fmt.Sprint(kids)
	}
	return got
}

func (k call) asked(m *arena) answer {
	var want answer
	switch k.name {
	case "Build":
		want.handle, want.code = m.build(k.tree)
	case "Place":
		want.code = m.place(k.a, k.b, k.c)
	case "Move":
		want.code = m.move(k.a, k.b)
	case "Remove":
		want.code = m.remove(k.a)
	case "SetAttr":
		want.code = m.setAttr(k.a, k.s, k.v)
	case "DropAttr":
		want.code = m.dropAttr(k.a, k.s)
	case "SetText":
		want.code = m.setText(k.a, k.s)
	case "Kids":
		want = answer{0, "[]", api.ErrDomNode}
		if m.live(k.a) {
			want = answer{0, fmt.Sprint(m.nodes[k.a].kids), api.OK}
		}
	}
	return want
}

// twin is an arena of each kind, kept alike.
type twin struct {
	x *Dom
	m *arena
}

func newTwin(t *testing.T, room int) twin {
	t.Helper()
	x, e := New(room)
	if e != api.OK || x == nil {
		t.Fatalf("New(%d): %v, %d", room, x, e)
	}
	return twin{x, newArena(room)}
}

// do makes one call of both, and holds all that they tell against each other.
func (w twin) do(t *testing.T, k call) answer {
	t.Helper()
	before := pictureOf(w.x)
	got, want := k.run(w.x), k.asked(w.m)
	if got != want {
		t.Fatalf("%v: %v, want %v", k, got, want)
	}
	now := pictureOf(w.x)
	if asked := w.m.picture(); !reflect.DeepEqual(now, asked) {
		t.Fatalf("behind %v: %+v, want %+v", k, now, asked)
	}
	if got.code != api.OK && !reflect.DeepEqual(now, before) {
		t.Fatalf("%v is refused by %d, but the arena is another", k, got.code)
	}
	if s := now.fault(); s != "" {
		t.Fatalf("behind %v: %s", k, s)
	}
	return got
}

// maker makes calls by chance.
type maker struct{ r *rand.Rand }

func (g maker) pick(of ...string) string { return of[g.r.Intn(len(of))] }

func (g maker) name() string { return g.pick("a", "b", "c", "m", "z", "a-b", "a0") }

func (g maker) text() string {
	if g.r.Intn(12) == 0 {
		return g.pick("\xff", long(4097), "é\xc3")
	}
	return g.pick("", "x", "y", "é€😀", "<&>", long(4096))
}

func (g maker) tree(depth int) api.Tree {
	if g.r.Intn(60) == 0 {
		return g.wrong()
	}
	if depth == 0 || g.r.Intn(3) == 0 {
		return text(g.pick("", "x", "y", "é"))
	}
	tree := elem(g.pick("p", "b", "x-1"))
	for _, name := range []string{"a", "a-b", "a0", "b", "m"} {
		if g.r.Intn(4) == 0 {
			tree.Attrs = append(tree.Attrs, api.Attr{Name: name, Value: g.pick("", "1", "2")})
		}
	}
	for range g.r.Intn(4) {
		tree.Kids = append(tree.Kids, g.tree(depth-1))
	}
	return tree
}

func (g maker) wrong() api.Tree { return wrongTrees[g.r.Intn(len(wrongTrees))] }

// handle is mostly a live one.
func (g maker) handle(m *arena) int {
	if g.r.Intn(15) == 0 {
		return []int{-2, -1, m.room, m.room + 1, -1 << 63, 1<<63 - 1}[g.r.Intn(6)]
	}
	h := g.r.Intn(m.room)
	for tries := 0; m.nodes[h] == nil && tries < 4; tries++ {
		h = g.r.Intn(m.room)
	}
	return h
}

// before is often -1 or a kid of parent.
func (g maker) before(m *arena, parent int) int {
	if g.r.Intn(3) == 0 {
		return -1
	}
	if n := m.nodes[parent]; n != nil && len(n.kids) > 0 && g.r.Intn(5) > 0 {
		return n.kids[g.r.Intn(len(n.kids))]
	}
	return g.handle(m)
}

func (g maker) call(m *arena) call {
	k := call{name: g.pick("Build", "Build", "Place", "Place", "Place", "Move", "Move", "Remove", "SetAttr", "SetAttr", "DropAttr", "SetText", "Kids")}
	k.a, k.b = g.handle(m), g.handle(m)
	k.s, k.v = g.name(), g.text()
	switch k.name {
	case "Build":
		k = call{name: "Build", tree: g.tree(g.r.Intn(4))}
	case "Place":
		k.c = g.before(m, k.a)
	case "Move":
		k.b = -1
		if n := m.nodes[k.a]; n != nil {
			k.b = g.before(m, n.parent)
		}
	case "SetAttr", "DropAttr":
		if g.r.Intn(10) == 0 {
			k.s = g.pick("", "A", "a_b", "\xff", "a ", long(33))
		}
	case "SetText":
		k.s = g.text()
	}
	return k
}
