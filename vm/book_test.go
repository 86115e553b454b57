package vm

import (
	"slices"
	"strconv"
	"strings"
	"testing"

	"stencil/api"
	"stencil/code"
	"stencil/data"
	"stencil/expr"
)

func datum(t *testing.T, s string) api.Value {
	t.Helper()
	v, at, code := data.Parse([]byte(s))
	if code != api.OK {
		t.Fatalf("%.200s: %d at %d", s, code, at)
	}
	return v
}

// book is a program in the making.
type book struct {
	api.Program
}

// text is the number of a text.
func (b *book) text(s string) int {
	at := slices.Index(b.Texts, s)
	if at < 0 {
		at = len(b.Texts)
		b.Texts = append(b.Texts, s)
	}
	return at
}

// code is the number of a code that comes to what an expression does, in which p0, p1 .. are the places of the stack, $1, $2 .. those from its top on.
func (b *book) code(s string, depth int) int {
	for i := 1; i <= depth && strings.Contains(s, "$"); i++ {
		s = strings.ReplaceAll(s, "$"+strconv.Itoa(i), "p"+strconv.Itoa(depth-i))
	}
	e, at, fault := expr.Parse(s)
	if fault != api.OK {
		panic(s + ": " + strconv.Itoa(at))
	}
	return b.exprCode(resolved(e))
}

func resolved(e api.Expr) api.Expr {
	if place, err := strconv.Atoi(strings.TrimPrefix(e.Str, "p")); e.Op == api.EVar && err == nil {
		return api.Expr{Op: api.EVar, Int: place}
	}
	e.Kids = slices.Clone(e.Kids)
	for i, kid := range e.Kids {
		e.Kids[i] = resolved(kid)
	}
	return e
}

func (b *book) exprCode(e api.Expr) int {
	insts, texts, fault := code.Make(e)
	if fault != api.OK {
		panic(fault)
	}
	for i, inst := range insts {
		if inst.Op == api.IStr || inst.Op == api.IField {
			insts[i].A = b.text(texts[inst.A])
		}
	}
	at := slices.IndexFunc(b.Codes, func(other []api.Inst) bool { return slices.Equal(other, insts) })
	if at < 0 {
		at = len(b.Codes)
		b.Codes = append(b.Codes, insts)
	}
	return at
}

// making is a block in the making.
type making struct {
	*book
	api.Block
	// quiet tells that what is added is not listed in Update.
	quiet bool
}

func (m *making) add(op api.Op) {
	if !m.quiet {
		m.Update = append(m.Update, len(m.Ops))
	}
	m.Ops = append(m.Ops, op)
}

// block is the number of a new block with so many values more.
func (m *making) block(more int, inside []part) int {
	number := len(m.Blocks)
	m.Blocks = append(m.Blocks, api.Block{})
	in := &making{book: m.book, Block: api.Block{Depth: m.Depth + more}}
	for _, one := range inside {
		one(in)
	}
	m.Blocks[number] = in.Block
	return number
}

// part adds something to a block.
type part func(m *making)

// parts are such in their row, or none.
func parts(those ...part) []part { return those }

// programOf is a program whose block 0 is that; all operations are listed in Update, but for those that are quiet.
func programOf(inside ...part) api.Program {
	m := making{book: &book{}}
	m.block(1, inside)
	return m.Program
}

// quiet keeps what is added to this block out of Update.
func quiet(inside ...part) part {
	return func(m *making) {
		before := m.quiet
		m.quiet = true
		for _, one := range inside {
			one(m)
		}
		m.quiet = before
	}
}

// ops are operations as they are written.
func ops(those ...api.Op) part {
	return func(m *making) {
		for _, op := range those {
			m.add(op)
		}
	}
}

func text(s string) part {
	return func(m *making) { m.add(api.Op{Kind: api.OpText, A: m.text(s)}) }
}

func show(e string) part {
	return func(m *making) { m.add(api.Op{Kind: api.OpTextX, A: m.code(e, m.Depth)}) }
}

func elem(tag string, inside ...part) part {
	return func(m *making) {
		m.add(api.Op{Kind: api.OpOpen, A: m.text(tag)})
		for _, one := range inside {
			one(m)
		}
		m.add(api.Op{Kind: api.OpClose})
	}
}

func attr(name, content string) part {
	return func(m *making) { m.add(api.Op{Kind: api.OpAttr, A: m.text(name), B: m.text(content)}) }
}

func bound(name, e string) part {
	return func(m *making) { m.add(api.Op{Kind: api.OpAttrX, A: m.text(name), B: m.code(e, m.Depth)}) }
}

func static(tree api.Tree) part {
	return func(m *making) {
		m.Statics = append(m.Statics, tree)
		m.add(api.Op{Kind: api.OpStatic, A: len(m.Statics) - 1})
	}
}

// either has no block where there is no part.
func either(test string, yes, no []part) part {
	return func(m *making) {
		op := api.Op{Kind: api.OpIf, A: m.code(test, m.Depth)}
		if len(yes) > 0 {
			op.B = m.block(0, yes)
		}
		if len(no) > 0 {
			op.C = m.block(0, no)
		}
		m.add(op)
	}
}

func each(list, key string, inside ...part) part {
	return func(m *making) {
		m.add(api.Op{Kind: api.OpFor, A: m.code(list, m.Depth), B: m.code(key, m.Depth+2), C: m.block(2, inside)})
	}
}

func with(codes []string, inside ...part) part {
	return func(m *making) {
		op := api.Op{Kind: api.OpWith}
		for _, e := range codes {
			op.List = append(op.List, m.code(e, m.Depth))
		}
		op.C = m.block(len(codes), inside)
		m.add(op)
	}
}

func let(e string) part {
	return func(m *making) {
		m.add(api.Op{Kind: api.OpLet, A: m.code(e, m.Depth)})
		m.Depth++
	}
}

func drop(n int) part {
	return func(m *making) {
		m.add(api.Op{Kind: api.OpDrop, A: n})
		m.Depth -= n
	}
}

// listing is a program of which those operations are listed that it tells.
func listing(p api.Program, lists func(op api.Op) bool) api.Program {
	p.Blocks = slices.Clone(p.Blocks)
	for number, block := range p.Blocks {
		block.Update = nil
		for place, op := range block.Ops {
			if lists(op) {
				block.Update = append(block.Update, place)
			}
		}
		p.Blocks[number] = block
	}
	return p
}

func isFlagged(op api.Op) bool {
	return slices.Contains([]int{api.OpTextX, api.OpAttrX, api.OpIf, api.OpFor, api.OpWith}, op.Kind)
}

func never(api.Op) bool { return false }
