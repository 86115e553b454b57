package program

import (
	"stencil/api"
	"stencil/forest"
	"stencil/leb"
	"stencil/utf"
)

// maxDeep is how deep a node of a tree may lie.
const maxDeep = 2 * api.MaxNest

// reader stands at a place of the bytes, and knows how many nodes of the tree that it reads have begun.
type reader struct {
	input []byte
	at    int
	nodes int
}

// refuse tells that what begins at the place may not stand there, or is cut.
func refuse(at int) {
	panic(fault{api.ErrProgramForm, at})
}

func (r *reader) program() api.Program {
	if r.octet() != version {
		refuse(0)
	}
	p := api.Program{
		Texts:   readList(r, api.MaxTexts, r.text),
		Codes:   readList(r, api.MaxCodes, r.code),
		Statics: readList(r, api.MaxStatics, r.static),
		Blocks:  readList(r, api.MaxBlocks, r.block),
	}
	if r.at < len(r.input) {
		refuse(r.at)
	}
	return p
}

func (r *reader) code() []api.Inst {
	return readList(r, api.MaxCode, r.inst)
}

func (r *reader) inst() api.Inst {
	return api.Inst{Op: r.octet(), A: r.whole()}
}

func (r *reader) static() api.Tree {
	r.nodes = 0
	return r.node(1)
}

// node asks number and depth ahead of all else, so that no bytes, however they nest, lead a reader deeper than maxDeep.
func (r *reader) node(depth int) api.Tree {
	start := r.at
	r.nodes++
	if r.nodes > api.MaxNodes || depth > maxDeep {
		refuse(start)
	}
	tag := r.text()
	if tag == "" {
		return api.Tree{Text: r.text()}
	}
	tree := api.Tree{Tag: tag, Attrs: readList(r, api.MaxNodes, r.attr)}
	if forest.Check([]api.Tree{tree}) != api.OK {
		refuse(start)
	}
	tree.Kids = readList(r, api.MaxNodes, func() api.Tree { return r.node(depth + 1) })
	return tree
}

func (r *reader) attr() api.Attr {
	return api.Attr{Name: r.text(), Value: r.text()}
}

func (r *reader) block() api.Block {
	return api.Block{
		Depth:  r.count(api.MaxStack),
		Ops:    readList(r, api.MaxOps, r.op),
		Update: readList(r, api.MaxOps, r.whole),
	}
}

func (r *reader) op() api.Op {
	return api.Op{Kind: r.octet(), A: r.whole(), B: r.whole(), C: r.whole(), List: readList(r, api.MaxStack, r.whole)}
}

func (r *reader) octet() int {
	if r.at == len(r.input) {
		refuse(r.at)
	}
	c := r.input[r.at]
	r.at++
	return int(c)
}

func (r *reader) whole() int {
	x, behind, code := leb.TakeInt(r.input, r.at)
	if code != api.OK {
		refuse(r.at)
	}
	r.at = behind
	return x
}

func (r *reader) count(limit int) int {
	n, behind, code := leb.Take(r.input, r.at)
	if code != api.OK || n > uint64(limit) {
		refuse(r.at)
	}
	r.at = behind
	return int(n)
}

// text refuses at the length, whatever is wrong behind it.
func (r *reader) text() string {
	start := r.at
	size := r.count(api.MaxStr)
	if size > len(r.input)-r.at {
		refuse(start)
	}
	s := string(r.input[r.at : r.at+size])
	if _, code := utf.Valid(s); code != api.OK {
		refuse(start)
	}
	r.at += size
	return s
}

// readList reads how many there are, and each by one. It makes no room ahead: a count may say more than there is.
func readList[T any](r *reader, limit int, one func() T) []T {
	var all []T
	for range r.count(limit) {
		all = append(all, one())
	}
	return all
}
