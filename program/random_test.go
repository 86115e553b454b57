package program

import (
	"math"
	"math/rand"
	"slices"
	"strings"
	"testing"

	"stencil/api"
)

// maker makes programs that may be, and bends them.
type maker struct {
	*rand.Rand
}

func newMaker(seed int64) *maker { return &maker{rand.New(rand.NewSource(seed))} }

func (m *maker) chance(n int) bool { return m.Intn(n) == 0 }

func (m *maker) pick(those ...int) int { return those[m.Intn(len(those))] }

func (m *maker) word(those ...string) string { return those[m.Intn(len(those))] }

// whole is any integer, of any length.
func (m *maker) whole() int {
	x := m.Int() >> m.Intn(63)
	return m.pick(0, 1, -1, 63, 64, -64, -65, x, -x, math.MaxInt64, math.MinInt64)
}

func (m *maker) text() string {
	return m.word("", "a", "é", "\x00", "€uro", "\U0010ffff", "plain text", strings.Repeat("x", m.Intn(300)), strings.Repeat("é", 64))
}

// listOf is a list of at most n.
func listOf[T any](m *maker, n int, one func() T) []T {
	var out []T
	for range m.Intn(n + 1) {
		out = append(out, one())
	}
	return out
}

func (m *maker) inst() api.Inst { return api.Inst{Op: m.pick(m.Intn(256), 0, 255), A: m.whole()} }

func (m *maker) op() api.Op {
	return api.Op{Kind: m.pick(m.Intn(256), 0, 255), A: m.whole(), B: m.whole(), C: m.whole(), List: listOf(m, m.pick(0, 0, 3), m.whole)}
}

func (m *maker) block() api.Block {
	return api.Block{Depth: m.Intn(65), Ops: listOf(m, 4, m.op), Update: listOf(m, 3, m.whole)}
}

func (m *maker) tree(room int) api.Tree {
	if room == 0 || m.chance(3) {
		return text(m.text())
	}
	tree := elem(m.word("p", "a", "x-1", strings.Repeat("t", 32)), listOf(m, 3, func() api.Tree { return m.tree(room - 1) })...)
	for _, name := range []string{"a", "a-", "b", "b2", "c-c", strings.Repeat("d", 32)} {
		if m.chance(4) {
			tree.Attrs = append(tree.Attrs, api.Attr{Name: name, Value: m.text()})
		}
	}
	return tree
}

func (m *maker) program() api.Program {
	return api.Program{
		Texts:   listOf(m, 4, m.text),
		Codes:   listOf(m, 3, func() []api.Inst { return listOf(m, 5, m.inst) }),
		Statics: listOf(m, 2, func() api.Tree { return m.tree(4) }),
		Blocks:  listOf(m, 3, m.block),
	}
}

// bent is b with some bytes changed, put in, taken out or said twice.
func (m *maker) bent(b []byte) []byte {
	b = slices.Clone(b)
	for range 1 + m.Intn(2) {
		at := m.Intn(len(b))
		end := min(len(b), at+1+m.Intn(3))
		c := byte(m.pick(m.Intn(256), m.Intn(8), 0x80, 0xff, 'a', 64, 65))
		switch m.Intn(6) {
		case 0:
			b[at] = c
		case 1:
			b[at] += byte(m.pick(1, 255, 0x80))
		case 2:
			b = slices.Insert(b, at, c)
		case 3:
			b = slices.Insert(b, at, b[at:end]...)
		case 4:
			b = slices.Delete(b, at, end)
		case 5:
			b = b[:end]
		}
		if len(b) == 0 {
			return join(1)
		}
	}
	return b
}

// TestP21_3Random: programs that may be, there and back; and their bytes, bent, as the second way has them.
func TestP21_3Random(t *testing.T) {
	t.Parallel()
	m, met := newMaker(210), map[bool]int{}
	for range 6000 {
		p := m.program()
		expectScribed(t, p)
		b := scribed(p).bytes
		for range 20 {
			met[expectJudged(t, m.bent(b)) < 0]++
		}
		if t.Failed() {
			return
		}
	}
	if met[true] < 5000 || met[false] < 20000 {
		t.Errorf("%v", met)
	}
}

// bendTree makes one thing of a tree, or of what lies in it, another one.
func (m *maker) bendTree(tree *api.Tree) {
	if len(tree.Kids) > 0 && m.chance(2) {
		m.bendTree(&tree.Kids[m.Intn(len(tree.Kids))])
		return
	}
	words := []string{"", "a", "b-", "p", "P", "a_", "é", "\xff", strings.Repeat("a", 32), strings.Repeat("a", 33), strings.Repeat("a", 4096), strings.Repeat("a", 4097)}
	switch at := m.Intn(len(tree.Attrs) + 1); m.Intn(6) {
	case 0:
		tree.Tag = m.word(words...)
	case 1:
		tree.Text = m.word(words...)
	case 2:
		tree.Attrs = slices.Insert(slices.Clone(tree.Attrs), at, api.Attr{Name: m.word(words...), Value: m.word(words...)})
	case 3:
		if at < len(tree.Attrs) {
			tree.Attrs[at].Value = m.word(words...)
		}
	case 4:
		if at < len(tree.Attrs) {
			tree.Attrs[at].Name = m.word(words...)
		}
	case 5:
		tree.Kids = append(slices.Clone(tree.Kids), text(m.word(words...)))
	}
}

// bend makes one thing of a program another one, if it is there; it may still be, or not.
func (m *maker) bend(p *api.Program) {
	numbers := []int{0, 1, -1, 63, 64, 65, 254, 255, 256, 1 << 32, math.MaxInt64, math.MinInt64}
	some := func(n int) int { return m.Intn(max(n, 1)) }
	text, code, static, block := some(len(p.Texts)), some(len(p.Codes)), some(len(p.Statics)), some(len(p.Blocks))
	switch kind := m.Intn(6); {
	case kind == 0 && len(p.Texts) > 0:
		p.Texts[text] = m.word(append(wrongTexts(), "", "é")...)
	case kind == 1 && len(p.Codes) > 0 && len(p.Codes[code]) > 0:
		p.Codes[code][some(len(p.Codes[code]))].Op = m.pick(numbers...)
	case kind == 2 && len(p.Statics) > 0:
		m.bendTree(&p.Statics[static])
	case kind == 3 && len(p.Blocks) > 0:
		p.Blocks[block].Depth = m.pick(numbers...)
	case kind == 4 && len(p.Blocks) > 0 && len(p.Blocks[block].Ops) > 0:
		p.Blocks[block].Ops[some(len(p.Blocks[block].Ops))].Kind = m.pick(numbers...)
	case kind == 5 && len(p.Blocks) > 0 && len(p.Blocks[block].Ops) > 0:
		p.Blocks[block].Ops[some(len(p.Blocks[block].Ops))].List = make([]int, m.pick(0, 1, 63, 64, 65, 66))
	}
}

// TestP21_1Random: programs that are bent, as the second way has them.
func TestP21_1Random(t *testing.T) {
	t.Parallel()
	m, met := newMaker(213), map[bool]int{}
	for range 40000 {
		p := m.program()
		m.bend(&p)
		may := lawful(p)
		met[may]++
		if may {
			expectScribed(t, p)
		} else {
			expectNoBytes(t, p, api.ErrProgramForm)
		}
		if t.Failed() {
			return
		}
	}
	if met[true] < 5000 || met[false] < 5000 {
		t.Errorf("%v", met)
	}
}
