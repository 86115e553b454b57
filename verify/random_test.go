package verify

import (
	"math"
	"math/rand"
	"slices"
	"strings"
	"testing"

	"stencil/api"
)

// maker makes programs that may be, and bends them.
type maker struct {
	*rand.Rand
	blocks []api.Block
	// waiting are the blocks that have an owner, but no operations yet.
	waiting []room
}

// room is what a block is made in.
type room struct {
	number, stack, elements, loops int
	looped                         bool
}

func newMaker(seed int64) *maker { return &maker{Rand: rand.New(rand.NewSource(seed))} }

func (m *maker) chance(n int) bool { return m.Intn(n) == 0 }

func (m *maker) pick(those ...int) int { return those[m.Intn(len(those))] }

// made is a program that may be, of some blocks; their numbers rise from an owner to what it owns, else they are in any row.
func (m *maker) made() api.Program {
	m.blocks, m.waiting = []api.Block{{}}, []room{{stack: 1}}
	for len(m.waiting) > 0 {
		at := m.Intn(len(m.waiting))
		r := m.waiting[at]
		m.waiting = slices.Delete(m.waiting, at, at+1)
		m.fill(r)
	}
	return program0(m.blocks...)
}

// newBlock is the number of a block that is made later, or 0.
func (m *maker) newBlock(r room) int {
	if len(m.blocks) > 7 {
		return 0
	}
	r.number = len(m.blocks)
	m.blocks = append(m.blocks, api.Block{})
	m.waiting = append(m.waiting, r)
	return r.number
}

// code is the number of one that may be run with so many values on the stack.
func (m *maker) code(stack int) int {
	return m.pick([]int{codeNull, codeAt0, codeAt1, codeBoth, codeAt2}[:min(5, 1+stack+stack/2)]...)
}

func (m *maker) fill(r room) {
	b := api.Block{Depth: r.stack}
	switch {
	case r.looped && m.chance(3):
		b.Ops = []api.Op{op(api.OpStatic, m.Intn(statics))}
	case r.looped:
		b.Ops = m.element(r)
	default:
		b.Ops = m.row(r)
	}
	for place := range b.Ops {
		if m.chance(2) {
			b.Update = append(b.Update, place)
		}
	}
	m.blocks[r.number] = b
}

// row is some operations, one behind the other, that leave the stack as it is.
func (m *maker) row(r room) []api.Op {
	var out []api.Op
	lets := 0
	for range m.Intn(6) {
		switch m.Intn(9) {
		case 0:
			out = append(out, op(api.OpText, m.Intn(texts)))
		case 1:
			out = append(out, op(api.OpTextX, m.code(r.stack)))
		case 2:
			out = append(out, op(api.OpStatic, m.Intn(statics)))
		case 3:
			out = append(out, op(api.OpLet, m.code(r.stack)))
			lets++
			r.stack++
		case 4:
			if lets > 0 {
				n := 1 + m.Intn(lets)
				out = append(out, drop(n))
				lets -= n
				r.stack -= n
			}
		case 5:
			if r.elements < 4 {
				out = append(out, m.element(r)...)
			}
		default:
			out = append(out, m.owner(r)...)
		}
	}
	if lets > 0 {
		out = append(out, drop(lets))
	}
	return out
}

// element is one with some attributes.
func (m *maker) element(r room) []api.Op {
	out := []api.Op{op(api.OpOpen, m.pick(textP, textQ, 4, 5))}
	for _, name := range []int{textP, textQ, 4, 5} {
		switch m.Intn(5) {
		case 0:
			out = append(out, op(api.OpAttr, name, m.Intn(texts)))
		case 1:
			out = append(out, op(api.OpAttrX, name, m.code(r.stack)))
		}
	}
	r.elements++
	return slices.Concat(out, m.row(r), []api.Op{shut})
}

// owner is an operation with its blocks, or none.
func (m *maker) owner(r room) []api.Op {
	in := r
	in.looped = false
	switch m.Intn(3) {
	case 0:
		o := op(api.OpIf, m.code(r.stack))
		for _, number := range []*int{&o.B, &o.C} {
			if m.chance(2) {
				*number = m.newBlock(in)
			}
		}
		if m.chance(2) {
			o.B, o.C = o.C, o.B
		}
		return []api.Op{o}
	case 1:
		in.stack += 2
		in.loops++
		in.looped = true
		if body := m.newBlock(in); body > 0 {
			return []api.Op{op(api.OpFor, m.code(r.stack), m.code(r.stack+2), body)}
		}
	case 2:
		o := api.Op{Kind: api.OpWith}
		for range m.Intn(4) {
			o.List = append(o.List, m.code(r.stack))
		}
		in.stack += len(o.List)
		if o.C = m.newBlock(in); o.C > 0 {
			return []api.Op{o}
		}
	}
	return nil
}

// copyOf is a copy that can be bent.
func copyOf(p api.Program) api.Program {
	p.Texts, p.Codes, p.Statics, p.Blocks = slices.Clone(p.Texts), slices.Clone(p.Codes), slices.Clone(p.Statics), slices.Clone(p.Blocks)
	for number, b := range p.Blocks {
		p.Blocks[number].Ops, p.Blocks[number].Update = slices.Clone(b.Ops), slices.Clone(b.Update)
		for place, o := range b.Ops {
			p.Blocks[number].Ops[place].List = slices.Clone(o.List)
		}
	}
	return p
}

// anyOp is an operation of any kind, with numbers that may be or not.
func (m *maker) anyOp() api.Op {
	some := func() int { return m.pick(0, 0, 1, 1, 2, 3, 4, 5, 6, -1, math.MaxInt64, math.MinInt64) }
	o := api.Op{Kind: 1 + m.Intn(12), A: m.Intn(5)}
	switch o.Kind {
	case api.OpClose:
		o.A = 0
	case api.OpAttr, api.OpAttrX:
		o.B = m.Intn(5)
	case api.OpIf:
		o.B, o.C = some(), some()
	case api.OpFor:
		o.B, o.C = m.Intn(5), some()
	case api.OpWith:
		o.A, o.C = 0, some()
		for range m.Intn(3) {
			o.List = append(o.List, m.Intn(5))
		}
	}
	if m.chance(10) {
		*[]*int{&o.Kind, &o.A, &o.B, &o.C}[m.Intn(4)] = some()
	}
	return o
}

// bend makes one thing of a program another one; it may still be, or not.
func (m *maker) bend(p *api.Program) {
	if len(p.Blocks) == 0 {
		return
	}
	number := m.Intn(len(p.Blocks))
	b := &p.Blocks[number]
	switch m.Intn(12) {
	case 0:
		b.Depth += m.pick(1, -1, 2, 64)
	case 1:
		b.Update = append(b.Update, m.pick(0, 1, len(b.Ops)-1, len(b.Ops), -1))
	case 2:
		p.Blocks = slices.Delete(p.Blocks, number, number+1)
	case 3:
		p.Blocks = append(p.Blocks, *b)
	case 4:
		other := m.Intn(len(p.Blocks))
		p.Blocks[number], p.Blocks[other] = p.Blocks[other], p.Blocks[number]
	case 5:
		m.bendShared(p)
	default:
		m.bendOps(b)
	}
}

// bendShared makes a text, a code or a static another one.
func (m *maker) bendShared(p *api.Program) {
	switch m.Intn(3) {
	case 0:
		p.Texts[m.Intn(len(p.Texts))] = []string{"", "p", "q", "é", "Tag", "\xff", strings.Repeat("x", 4096), strings.Repeat("x", 4097)}[m.Intn(8)]
	case 1:
		p.Codes[m.Intn(len(p.Codes))] = [][]api.Inst{nil, {{Op: api.IVar, A: m.pick(0, 1, 2, 3, 63, 64)}}, {{Op: api.IStr, A: m.pick(0, 5, 6)}}, {{Op: 0}}, {{Op: api.INull}}}[m.Intn(5)]
	case 2:
		p.Statics[m.Intn(len(p.Statics))] = []api.Tree{{}, {Tag: "p"}, {Tag: "P"}, {Text: "x"}, tower(64), tower(63), tower(61), tower(65)}[m.Intn(8)]
	}
}

// bendOps puts in, takes out, changes, says twice, or brings operations of a block into another row.
func (m *maker) bendOps(b *api.Block) {
	at := m.Intn(len(b.Ops) + 1)
	if at == len(b.Ops) {
		b.Ops = append(b.Ops, m.anyOp())
		return
	}
	other := m.Intn(len(b.Ops))
	switch o := &b.Ops[at]; m.Intn(7) {
	case 0:
		b.Ops = slices.Insert(b.Ops, at, m.anyOp())
	case 1:
		b.Ops = slices.Delete(b.Ops, at, at+1)
	case 2:
		b.Ops[at], b.Ops[other] = b.Ops[other], b.Ops[at]
	case 3:
		b.Ops = slices.Insert(b.Ops, at, b.Ops[other])
	case 4:
		*[]*int{&o.Kind, &o.A, &o.B, &o.C}[m.Intn(4)] += m.pick(1, -1, 2, 3)
	case 5:
		*o = m.anyOp()
	case 6:
		o.List = append(slices.Clone(o.List), m.pick(0, 1, 2, 3, 4, 5, -1))
	}
}

// TestP22_1Random: programs that may be, and such as are bent once or more, as the second way has them.
func TestP22_1Random(t *testing.T) {
	t.Parallel()
	m, met := newMaker(220), tally{}
	sizes := map[int]int{}
	for range 12000 {
		p := m.made()
		expectOK(t, p)
		sizes[len(p.Blocks)]++
		for range 6 {
			bent := copyOf(p)
			for range 1 + m.Intn(3) {
				m.bend(&bent)
			}
			met[expectJudged(t, bent).code]++
		}
		if t.Failed() {
			return
		}
	}
	met.expectMet(t, 300, api.ErrVerifyText, api.ErrVerifyCode, api.ErrVerifyTree, api.ErrVerifyOp, api.ErrVerifyShape, api.ErrVerifyBlock, api.ErrVerifyLoop, api.ErrVerifyUpdate, api.ErrVerifyDepth)
	for size := 1; size <= 8; size++ {
		if sizes[size] < 100 {
			t.Errorf("%v", sizes)
		}
	}
}

// TestP22_2Tree: of a program that is taken, walking from block 0 through what the operations own meets each block once.
func TestP22_2Tree(t *testing.T) {
	t.Parallel()
	m, large := newMaker(221), 0
	for range 12000 {
		p := m.made()
		if m.chance(2) {
			m.bend(&p)
		}
		if _, _, code := Verify(p); code != api.OK {
			continue
		}
		runs := make([]int, len(p.Blocks))
		walkBlocks(p, 0, runs)
		if slices.Min(runs) != 1 || slices.Max(runs) != 1 {
			t.Fatalf("%s: %v", shown(p.Blocks), runs)
		}
		if len(runs) > 3 {
			large++
		}
	}
	if large < 1000 {
		t.Errorf("only %d with several blocks", large)
	}
	// What is not a tree is not taken: each owner of a chain names each block.
	for first := range 5 {
		for second := range 5 {
			for third := range 5 {
				p := program0(block(1, either(first, 0)), block(1, either(second, 0)), block(1, either(third, 0)), block(1))
				runs := make([]int, 4)
				isTree := first > 0 && second != 1 && third != 1 && third != 2 && max(first, second, third) < 4
				if isTree {
					walkBlocks(p, 0, runs)
					isTree = slices.Min(runs) == 1 && slices.Max(runs) == 1
				}
				if got := expectJudged(t, p); (got.code == api.OK) != isTree {
					t.Errorf("%d, %d, %d: %v", first, second, third, got)
				}
			}
		}
	}
}

// walkBlocks counts how often each block is run, if each operation is done once and each of its blocks is chosen once.
func walkBlocks(p api.Program, number int, runs []int) {
	if runs[number]++; runs[number] > 1 {
		return
	}
	for _, o := range p.Blocks[number].Ops {
		for _, b := range named(o) {
			if b != 0 {
				walkBlocks(p, b, runs)
			}
		}
	}
}
