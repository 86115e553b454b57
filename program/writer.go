package program

import (
	"math"

	"stencil/api"
	"stencil/forest"
	"stencil/leb"
	"stencil/utf"
)

// writer holds what is written so far; a method of the name of one of reader's writes what that one reads.
type writer struct {
	out []byte
}

// written is the bytes of p.
func written(p api.Program) []byte {
	var w writer
	w.program(p)
	if w.isFull() {
		panic(fault{code: api.ErrProgramLong})
	}
	return w.out
}

// isFull tells that there are too many bytes already.
func (w *writer) isFull() bool {
	return len(w.out) > api.MaxProgram
}

// put takes no more where it is full: what follows is gone through for faults alone, however large it is.
func (w *writer) put(b ...byte) {
	if !w.isFull() {
		w.out = append(w.out, b...)
	}
}

// must is asked of what the form has no bytes for.
func must(ok bool) {
	if !ok {
		panic(fault{code: api.ErrProgramForm})
	}
}

func (w *writer) program(p api.Program) {
	w.octet(version)
	writeList(w, api.MaxTexts, p.Texts, w.text)
	writeList(w, api.MaxCodes, p.Codes, w.code)
	writeList(w, api.MaxStatics, p.Statics, w.static)
	writeList(w, api.MaxBlocks, p.Blocks, w.block)
}

func (w *writer) code(insts []api.Inst) {
	writeList(w, api.MaxCode, insts, w.inst)
}

func (w *writer) inst(inst api.Inst) {
	w.octet(inst.Op)
	w.whole(inst.A)
}

// static asks all of the tree ahead of writing it, so that no tree is gone through that is too deep or too large.
func (w *writer) static(tree api.Tree) {
	must(forest.Check([]api.Tree{tree}) == api.OK)
	w.node(tree)
}

func (w *writer) node(tree api.Tree) {
	w.text(tree.Tag)
	if tree.Tag == "" {
		w.text(tree.Text)
		return
	}
	// A forest's nodes may have any number of attributes, a program's may not.
	writeList(w, api.MaxNodes, tree.Attrs, w.attr)
	writeList(w, api.MaxNodes, tree.Kids, w.node)
}

func (w *writer) attr(attr api.Attr) {
	w.text(attr.Name)
	w.text(attr.Value)
}

func (w *writer) block(block api.Block) {
	w.count(api.MaxStack, block.Depth)
	writeList(w, api.MaxOps, block.Ops, w.op)
	writeList(w, api.MaxOps, block.Update, w.whole)
}

func (w *writer) op(op api.Op) {
	w.octet(op.Kind)
	w.whole(op.A)
	w.whole(op.B)
	w.whole(op.C)
	writeList(w, api.MaxStack, op.List, w.whole)
}

func (w *writer) octet(x int) {
	must(0 <= x && x <= math.MaxUint8)
	w.put(byte(x))
}

func (w *writer) whole(x int) {
	w.put(leb.PutInt(x)...)
}

func (w *writer) count(limit, n int) {
	must(0 <= n && n <= limit)
	w.put(leb.Put(uint64(n))...)
}

// text asks the length first, so that no long text is read.
func (w *writer) text(s string) {
	w.count(api.MaxStr, len(s))
	_, code := utf.Valid(s)
	must(code == api.OK)
	w.put([]byte(s)...)
}

// writeList writes how many there are, and each by one.
func writeList[T any](w *writer, limit int, all []T, one func(T)) {
	w.count(limit, len(all))
	for _, x := range all {
		one(x)
	}
}
