package verify

import (
	"fmt"
	"math"
	"slices"
	"strings"
	"testing"

	"stencil/api"
)

// The numbers that the sample's texts, codes and statics have.
const (
	textP      = 0
	textQ      = 1
	textNoTag  = 2
	codeNull   = 0
	codeAt0    = 1
	codeAt1    = 2
	codeAt2    = 3
	codeBoth   = 4
	staticS    = 0
	staticPair = 1
	texts      = 6
	codes      = 5
	statics    = 2
)

// program0 is a program of these blocks, over texts, codes and statics of which each kind of operation finds what it may name.
func program0(blocks ...api.Block) api.Program {
	return api.Program{
		Texts:   []string{"p", "q", "No Tag", "", "q-", "x1"},
		Codes:   [][]api.Inst{{{Op: api.INull}}, {{Op: api.IVar}}, {{Op: api.IVar, A: 1}}, {{Op: api.IVar, A: 2}}, {{Op: api.IVar, A: 1}, {Op: api.IVar}, {Op: api.IStr, A: 5}, {Op: api.ICat}, {Op: api.ICat}}},
		Statics: []api.Tree{{Tag: "s"}, {Tag: "t", Kids: []api.Tree{{Text: "x"}}}},
		Blocks:  blocks,
	}
}

// block is one with so many values on the stack.
func block(depth int, ops ...api.Op) api.Block { return api.Block{Depth: depth, Ops: ops} }

// one is a program of one block.
func one(ops ...api.Op) api.Program { return program0(block(1, ops...)) }

// op is an operation of a kind, with A, B, C as far as they are given.
func op(kind int, abc ...int) api.Op {
	abc = append(slices.Clone(abc), 0, 0, 0)
	return api.Op{Kind: kind, A: abc[0], B: abc[1], C: abc[2]}
}

var (
	words  = op(api.OpText, textNoTag)
	state  = op(api.OpTextX, codeAt0)
	open   = op(api.OpOpen, textP)
	attrP  = op(api.OpAttr, textP, textNoTag)
	attrQ  = op(api.OpAttr, textQ, textNoTag)
	boundP = op(api.OpAttrX, textP, codeAt0)
	boundQ = op(api.OpAttrX, textQ, codeAt0)
	shut   = op(api.OpClose)
	still  = op(api.OpStatic, staticS)
	let    = op(api.OpLet, codeNull)
)

func drop(n int) api.Op { return op(api.OpDrop, n) }

func either(yes, no int) api.Op { return op(api.OpIf, codeNull, yes, no) }

func loop(body int) api.Op { return op(api.OpFor, codeNull, codeNull, body) }

func with(body int, list ...int) api.Op { return api.Op{Kind: api.OpWith, C: body, List: list} }

// times is an operation so often.
func times(n int, o api.Op) []api.Op { return slices.Repeat([]api.Op{o}, n) }

// cut is a text that may be long, for a message.
func cut(s string) string {
	if len(s) > 1200 {
		return s[:700] + " .. " + s[len(s)-400:]
	}
	return s
}

func shown(x any) string { return cut(fmt.Sprintf("%v", x)) }

// found is what Verify answers.
type found struct {
	block, place int
	code         api.Errno
}

func verified(p api.Program) found {
	block, place, code := Verify(p)
	return found{block, place, code}
}

func expect(t *testing.T, p api.Program, block, place int, code api.Errno) {
	t.Helper()
	if got := verified(p); got != (found{block, place, code}) {
		t.Errorf("%s: %v, want %v", shown(p.Blocks), got, found{block, place, code})
	}
}

func expectOK(t *testing.T, p api.Program) {
	t.Helper()
	expect(t, p, 0, 0, api.OK)
}

// expectJudged holds Verify against the second way, and answers what that told.
func expectJudged(t *testing.T, p api.Program) found {
	t.Helper()
	want := judged(p)
	if got := verified(p); got != want {
		t.Errorf("%s: %v, want %v", shown(p), got, want)
	}
	return want
}

// TestP22_1Kinds: programs that may be, with each kind of operation.
func TestP22_1Kinds(t *testing.T) {
	for _, p := range []api.Program{
		{Blocks: []api.Block{{Depth: 1}}},
		one(), one(words), one(op(api.OpText, 3)), one(state, state), one(still), one(op(api.OpStatic, staticPair), still),
		one(open, shut), one(op(api.OpOpen, 4), shut), one(open, open, shut, open, shut, shut, open, shut),
		one(open, attrP, attrQ, shut), one(open, boundP, attrQ, shut), one(open, attrP, boundQ, op(api.OpAttr, 4, 3), op(api.OpAttrX, 5, codeNull), shut), one(open, boundQ, words, shut, open, boundP, shut),
		one(open, attrQ, open, attrP, shut, shut),
		one(let, drop(1)), one(let, let, drop(2)), one(let, let, drop(1), drop(1)), one(let, open, let, drop(1), shut, drop(1)), one(let, open, open, shut, shut, drop(1)), one(let, drop(1), let, drop(1)),
		one(let, op(api.OpTextX, codeAt1), op(api.OpLet, codeAt1), op(api.OpTextX, codeAt2), drop(2), state),
		one(either(0, 0)), program0(block(1, either(1, 0)), block(1)), program0(block(1, either(0, 1)), block(1, words)), program0(block(1, either(1, 2)), block(1), block(1, still)), program0(block(1, either(2, 1)), block(1), block(1, still)),
		program0(block(1, loop(1)), block(3, still)), program0(block(1, loop(1)), block(3, open, shut)), program0(block(1, loop(1)), block(3, open, attrP, open, shut, let, drop(1), state, shut)),
		program0(block(1, op(api.OpFor, codeAt0, codeAt2, 1)), block(3, open, op(api.OpTextX, codeAt2), shut)),
		program0(block(1, with(1)), block(1)), program0(block(1, with(1, codeNull)), block(2, op(api.OpTextX, codeAt1))), program0(block(1, with(1, codeNull, codeAt0)), block(3, op(api.OpTextX, codeAt2))),
		program0(block(1, let, with(1, codeBoth, codeAt1), drop(1)), block(4)),
		program0(block(1, let, open, let, loop(1), drop(1), shut, drop(1)), block(5, still)),
	} {
		expectOK(t, p)
		if want := judged(p); want.code != api.OK {
			t.Errorf("%s: %v was asked for", shown(p.Blocks), want)
		}
	}
}

// TestP22_1Nested: blocks in blocks, of all kinds, with values on the stack and updates.
func TestP22_1Nested(t *testing.T) {
	p := program0(
		block(1, open, attrP, loop(4), either(1, 2), shut, with(3, codeAt0, codeNull), let, either(6, 0), drop(1)),
		block(1, state),
		block(1, open, either(0, 5), shut),
		block(3, op(api.OpTextX, codeAt2), with(7)),
		block(3, open, boundP, loop(8), shut),
		block(1, still, words),
		block(2, op(api.OpTextX, codeAt1)),
		block(3),
		block(5, still),
	)
	p.Blocks[0].Update = []int{2, 3, 5, 7}
	p.Blocks[4].Update = []int{0, 1, 2, 3}
	p.Blocks[8].Update = []int{0}
	expectOK(t, p)
	// None of its blocks can be left out, be of another depth, or belong to a second one.
	for number := range p.Blocks {
		for _, depth := range []int{-1, 0, 1, 2, 3, 4, 5, 6, 64, math.MaxInt64, math.MinInt64} {
			bent := p
			bent.Blocks = slices.Clone(p.Blocks)
			bent.Blocks[number].Depth = depth
			if depth == p.Blocks[number].Depth {
				expectOK(t, bent)
			} else {
				expect(t, bent, number, 0, api.ErrVerifyDepth)
			}
		}
		bent := p
		bent.Blocks = append(slices.Clone(p.Blocks), p.Blocks[number])
		expect(t, bent, 9, 0, api.ErrVerifyBlock)
		bent.Blocks[8].Ops = append(slices.Clone(p.Blocks[8].Ops), either(number, 0))
		if number == 0 {
			expect(t, bent, 8, 0, api.ErrVerifyLoop)
		} else {
			expect(t, bent, 8, 1, api.ErrVerifyBlock)
		}
	}
}

// TestP22_1Shared: texts, codes and statics that may not be; the first one's number is told, and texts are asked ahead of codes, codes ahead of statics.
func TestP22_1Shared(t *testing.T) {
	long := strings.Repeat("x", 4096)
	for _, s := range []string{"\xff", "a\xc3", "\xed\xa0\x80", "\xc0\x80", "\xf4\x90\x80\x80", long + "x", long[1:] + "é"} {
		p := one()
		p.Texts = append(p.Texts, "ok", s, "\xff")
		expect(t, p, 0, texts+1, api.ErrVerifyText)
		p.Texts[0] = s
		expect(t, p, 0, 0, api.ErrVerifyText)
	}
	for _, s := range []string{"", "\x00", long, long[2:] + "é", "\U0010ffff", "\ufffd"} {
		p := one()
		p.Texts = append(p.Texts, s)
		expectOK(t, p)
	}
	for _, insts := range [][]api.Inst{nil, {{Op: 99}}, {{Op: api.IAdd}}, {{Op: api.IStr, A: texts}}, {{Op: api.INull}, {Op: api.IField, A: texts}}, {{Op: api.IVar, A: 64}}, {{Op: api.IVar, A: -1}}, {{Op: api.INull}, {Op: api.INull}}, {{Op: api.IInt, A: 1}, {Op: api.IJump}}, slices.Repeat([]api.Inst{{Op: api.INull}}, 8193)} {
		p := one()
		p.Codes = append(p.Codes, insts, nil)
		expect(t, p, 0, codes, api.ErrVerifyCode)
		p.Statics = []api.Tree{{}}
		expect(t, p, 0, codes, api.ErrVerifyCode)
		p.Texts = append(p.Texts, "a", "\xff")
		if want := judged(p); want.code != api.ErrVerifyText || verified(p) != want {
			t.Errorf("%s: %v, %v", shown(insts), verified(p), want)
		}
	}
	for _, insts := range [][]api.Inst{{{Op: api.IVar, A: 63}}, {{Op: api.IStr, A: texts - 1}}, {{Op: api.INull}, {Op: api.IField, A: 0}}} {
		p := one()
		p.Codes = append(p.Codes, insts)
		expectOK(t, p)
	}
	for _, tree := range []api.Tree{{}, {Text: "x"}, {Tag: "P"}, {Tag: "p", Text: "x"}, {Tag: "p", Attrs: []api.Attr{{Name: "b"}, {Name: "a"}}}, {Tag: "p", Kids: []api.Tree{{Tag: "q", Kids: []api.Tree{{Text: "\xff"}}}}}, tower(65), {Tag: "p", Kids: make([]api.Tree, 4096)}} {
		p := one()
		p.Statics = append(p.Statics, api.Tree{Tag: "z"}, tree, api.Tree{})
		expect(t, p, 0, statics+1, api.ErrVerifyTree)
		p.Codes = append(p.Codes, nil)
		expect(t, p, 0, codes, api.ErrVerifyCode)
		p.Blocks = nil
		expect(t, p, 0, codes, api.ErrVerifyCode)
		p.Codes = p.Codes[:codes]
		expect(t, p, 0, statics+1, api.ErrVerifyTree)
	}
	for _, tree := range []api.Tree{tower(64), {Tag: "p", Kids: make([]api.Tree, 4095)}, {Tag: "p", Kids: []api.Tree{{}}}} {
		p := one()
		p.Statics = append(p.Statics, tree)
		expectOK(t, p)
	}
}

// tower is so many elements in one another.
func tower(n int) api.Tree {
	tree := api.Tree{Tag: "d"}
	for range n - 1 {
		tree = api.Tree{Tag: "d", Kids: []api.Tree{tree}}
	}
	return tree
}

// TestP22_1Blocks: none at all; such as nobody owns, owned twice, owned from behind.
func TestP22_1Blocks(t *testing.T) {
	none := api.ErrVerifyBlock
	expect(t, program0(), 0, 0, none)
	expect(t, api.Program{}, 0, 0, none)
	expect(t, program0(block(1), block(1)), 1, 0, none)
	expect(t, program0(block(1), block(7, op(99))), 1, 0, none)
	expect(t, program0(block(1, either(1, 0)), block(1), block(1)), 2, 0, none)
	expect(t, program0(block(1, either(2, 0)), block(1), block(1)), 1, 0, none)
	// Block 2 owns block 1: by the time that block 1 is looked at, nobody does.
	expect(t, program0(block(1, either(2, 0)), block(1), block(1, either(1, 0))), 1, 0, none)
	for _, number := range []int{-1, 0, 3, 4, 8192, 1 << 32, math.MaxInt64, math.MinInt64} {
		for place, owner := range []api.Op{loop(number), with(number), either(number, 0), either(0, number), either(1, number), either(number, 1)} {
			ops := []api.Op{still, owner}
			switch {
			case number == 0 && place > 1:
				if owner.B+owner.C > 0 {
					expect(t, program0(block(1, ops...), block(1), block(1)), 2, 0, none)
				} else {
					expect(t, program0(block(1, ops...), block(1), block(1)), 1, 0, none)
				}
			default:
				expect(t, program0(block(1, ops...), block(1), block(1)), 0, 1, none)
			}
		}
	}
	for _, twice := range []api.Op{loop(1), with(1), either(1, 0), either(0, 1), either(2, 1)} {
		expect(t, program0(block(1, either(1, 0), twice), block(1), block(1)), 0, 1, none)
		expect(t, program0(block(1, either(1, 0)), block(1, words, twice), block(1)), 1, 1, none)
		expect(t, program0(block(1, either(2, 1)), block(1), block(1, words, words, twice)), 2, 2, none)
	}
	expect(t, program0(block(1, either(1, 1)), block(1)), 0, 0, none)
	// Itself.
	expect(t, program0(block(1, either(1, 0)), block(1, with(1))), 1, 0, none)
	expect(t, one(with(0)), 0, 0, none)
	expect(t, one(loop(0)), 0, 0, none)
}

// TestP22_1Depth: how many values lie on the stack where a block belongs to.
func TestP22_1Depth(t *testing.T) {
	for _, c := range []struct {
		ahead []api.Op
		more  int
		tail  []api.Op
	}{
		{nil, 0, nil}, {[]api.Op{let}, 1, []api.Op{drop(1)}}, {[]api.Op{let, let}, 2, []api.Op{drop(2)}}, {[]api.Op{let, let, drop(1)}, 1, []api.Op{drop(1)}}, {[]api.Op{let, open, let}, 2, []api.Op{drop(1), shut, drop(1)}},
		{[]api.Op{let, open, let, drop(1), shut}, 1, []api.Op{drop(1)}}, {[]api.Op{let, drop(1)}, 0, nil}, {[]api.Op{open}, 0, []api.Op{shut}},
	} {
		for _, owner := range []struct {
			op   api.Op
			more int
		}{
			{either(1, 0), 0}, {either(0, 1), 0}, {loop(1), 2}, {with(1), 0}, {with(1, codeNull), 1}, {with(1, codeNull, codeAt0, codeAt0), 3},
		} {
			ops := slices.Concat(c.ahead, []api.Op{owner.op}, c.tail)
			for depth := range 10 {
				p := program0(block(1, ops...), block(depth, still))
				if depth == 1+c.more+owner.more {
					expectOK(t, p)
				} else {
					expect(t, p, 1, 0, api.ErrVerifyDepth)
				}
			}
		}
	}
	for _, depth := range []int{0, 2, -1, 64, math.MaxInt64, math.MinInt64} {
		expect(t, program0(block(depth)), 0, 0, api.ErrVerifyDepth)
		expect(t, program0(block(depth, op(99))), 0, 0, api.ErrVerifyDepth)
	}
}

// TestP22_1Fields: each number of a text, code or static that is none, each field that a kind does not name.
func TestP22_1Fields(t *testing.T) {
	// What lies ahead of and behind each, so that it may stand there, and what may be in A, B, C (block 1 is there).
	for kind, c := range map[int]struct {
		ahead, tail []api.Op
		fields      [3][]int
	}{
		api.OpText:   {nil, nil, [3][]int{{0, 1, 2, 3, 4, 5}, {0}, {0}}},
		api.OpTextX:  {nil, nil, [3][]int{{0, 1}, {0}, {0}}},
		api.OpOpen:   {nil, []api.Op{shut}, [3][]int{{0, 1, 4, 5}, {0}, {0}}},
		api.OpAttr:   {[]api.Op{open}, []api.Op{shut}, [3][]int{{0, 1, 4, 5}, {0, 1, 2, 3, 4, 5}, {0}}},
		api.OpAttrX:  {[]api.Op{open}, []api.Op{shut}, [3][]int{{0, 1, 4, 5}, {0, 1}, {0}}},
		api.OpClose:  {[]api.Op{open}, nil, [3][]int{{0}, {0}, {0}}},
		api.OpStatic: {nil, nil, [3][]int{{0, 1}, {0}, {0}}},
		api.OpLet:    {nil, []api.Op{drop(1)}, [3][]int{{0, 1}, {0}, {0}}},
		api.OpDrop:   {[]api.Op{let}, nil, [3][]int{{1}, {0}, {0}}},
	} {
		numbers := []int{0, 1, 2, 3, 4, 5, 6, 7, -1, 1 << 32, 1<<32 + 1, math.MaxInt64, math.MinInt64}
		for field, those := range c.fields {
			for _, number := range numbers {
				abc := [3]int{c.fields[0][0], c.fields[1][0], c.fields[2][0]}
				abc[field] = number
				p := one(slices.Concat(c.ahead, []api.Op{op(kind, abc[:]...)}, c.tail)...)
				place := len(c.ahead)
				// Codes 2 to 4 are there, but ask for more values than lie on the stack.
				isCode := field == 0 && (kind == api.OpTextX || kind == api.OpLet) || field == 1 && kind == api.OpAttrX
				switch {
				case slices.Contains(those, number):
					expectOK(t, p)
				case isCode && number >= 0 && number < codes:
					expect(t, p, 0, place, api.ErrVerifyCode)
				case kind == api.OpDrop && field == 0 && number > 1:
					expect(t, p, 0, place, api.ErrVerifyShape)
				default:
					expect(t, p, 0, place, api.ErrVerifyOp)
				}
			}
		}
		for _, list := range [][]int{{0}, {-1}, {0, 0}, make([]int, 65)} {
			o := op(kind, c.fields[0][0], c.fields[1][0], c.fields[2][0])
			o.List = list
			expect(t, one(slices.Concat(c.ahead, []api.Op{o}, c.tail)...), 0, len(c.ahead), api.ErrVerifyOp)
			o.List = []int{}
			expectOK(t, one(slices.Concat(c.ahead, []api.Op{o}, c.tail)...))
		}
	}
}

// TestP22_1OwnersFields: the same of the kinds that blocks belong to.
func TestP22_1OwnersFields(t *testing.T) {
	wrong := []int{-1, codes, codes + 1, 1 << 32, math.MaxInt64, math.MinInt64}
	bad := api.ErrVerifyOp
	for _, number := range wrong {
		expect(t, program0(block(1, op(api.OpIf, number, 1)), block(1)), 0, 0, bad)
		expect(t, program0(block(1, op(api.OpFor, number, 0, 1)), block(3, still)), 0, 0, bad)
		expect(t, program0(block(1, op(api.OpFor, 0, number, 1)), block(3, still)), 0, 0, bad)
		expect(t, program0(block(1, with(1, number)), block(2)), 0, 0, bad)
		expect(t, program0(block(1, with(1, 0, 0, number)), block(4)), 0, 0, bad)
		expect(t, program0(block(1, with(1, 0, number, 0)), block(4)), 0, 0, bad)
		// They are asked ahead of the codes that are too deep, and of the blocks.
		expect(t, program0(block(1, with(-5, codeAt2, number))), 0, 0, bad)
		expect(t, program0(block(1, op(api.OpFor, codeAt2, number, -5))), 0, 0, bad)
		expect(t, program0(block(1, op(api.OpIf, number, -5, -5))), 0, 0, bad)
	}
	for _, number := range []int{1, -1, 3, math.MaxInt64} {
		expect(t, program0(block(1, api.Op{Kind: api.OpWith, A: number, C: 1}), block(1)), 0, 0, bad)
		expect(t, program0(block(1, api.Op{Kind: api.OpWith, B: number, C: 1}), block(1)), 0, 0, bad)
	}
	for _, list := range [][]int{{0}, {-1}, {1, 1}} {
		expect(t, program0(block(1, api.Op{Kind: api.OpIf, B: 1, List: list}), block(1)), 0, 0, bad)
		expect(t, program0(block(1, api.Op{Kind: api.OpFor, C: 1, List: list}), block(3, still)), 0, 0, bad)
	}
	for _, kind := range []int{0, -1, 13, 14, 99, 255, 256, 256 + api.OpText, 1<<32 + api.OpText, math.MaxInt64, math.MinInt64} {
		expect(t, one(op(kind)), 0, 0, bad)
		expect(t, one(words, api.Op{Kind: kind, A: -1, List: []int{5}}), 0, 1, bad)
	}
}

// TestP22_1Codes: code that asks for more values than lie on the stack, wherever an operation names code.
func TestP22_1Codes(t *testing.T) {
	deep := api.ErrVerifyCode
	for lets := range 4 {
		for code, need := range []int{0, 1, 2, 3, 2} {
			lie := 1 + lets
			ahead, tail := times(lets, let), []api.Op{}
			if lets > 0 {
				tail = append(tail, drop(lets))
			}
			p := func(more ...api.Op) api.Program { return one(slices.Concat(ahead, more, tail)...) }
			ask := func(p api.Program, place int, ok bool) {
				t.Helper()
				if ok {
					expectOK(t, p)
				} else {
					expect(t, p, 0, place, deep)
				}
			}
			ok := need <= lie
			ask(p(op(api.OpTextX, code)), lets, ok)
			ask(p(open, op(api.OpAttrX, textP, code), shut), lets+1, ok)
			ask(p(op(api.OpIf, code)), lets, ok)
			ask(p(op(api.OpLet, code), drop(1)), lets, ok)
			inner := func(o api.Op, depth int) api.Program {
				p := p(o)
				p.Blocks = append(p.Blocks, block(depth, still))
				return p
			}
			ask(inner(op(api.OpIf, code, 1), lie), lets, ok)
			ask(inner(op(api.OpFor, code, codeNull, 1), lie+2), lets, ok)
			ask(inner(op(api.OpFor, codeNull, code, 1), lie+2), lets, need <= lie+2)
			for at := range 3 {
				list := make([]int, 3)
				list[at] = code
				ask(inner(with(1, list...), lie+3), lets, ok)
			}
		}
	}
	// In a block, what lies on the stack is its own depth.
	for depth := 1; depth < 5; depth++ {
		p := program0(block(1, with(1, make([]int, depth-1)...)), block(depth, words, op(api.OpTextX, codeAt2)))
		if depth > 2 {
			expectOK(t, p)
		} else {
			expect(t, p, 1, 1, deep)
		}
	}
}

// TestP22_1Places: only the places of a code count for how many values it asks, no other number of its instructions.
func TestP22_1Places(t *testing.T) {
	for need, insts := range map[int][]api.Inst{
		0: {{Op: api.IInt, A: 99}, {Op: api.ICall, A: api.CallU32}, {Op: api.IStr, A: 5}, {Op: api.IField, A: 5}, {Op: api.ISame}},
		1: {{Op: api.IVar}, {Op: api.IField, A: 5}, {Op: api.IElse, A: 5}, {Op: api.INull}, {Op: api.IJump, A: 6}, {Op: api.IInt, A: 63}},
		2: {{Op: api.ITrue}, {Op: api.IBoth, A: 7}, {Op: api.IVar}, {Op: api.IAny, A: 7}, {Op: api.IVar, A: 1}, {Op: api.IVar}, {Op: api.ISame}},
		4: {{Op: api.IVar, A: 3}, {Op: api.IVar, A: 2}, {Op: api.IIndex}},
		3: {{Op: api.ITrue}, {Op: api.IElse, A: 4}, {Op: api.IVar}, {Op: api.IJump, A: 5}, {Op: api.IVar, A: 2}},
	} {
		for lets := range 6 {
			p := one(slices.Concat(times(lets, let), []api.Op{op(api.OpTextX, codes), open, op(api.OpAttrX, textP, codes), shut}, []api.Op{drop(max(lets, 1))})...)
			p.Codes = append(p.Codes, insts)
			if lets == 0 {
				p.Blocks[0].Ops = p.Blocks[0].Ops[:4]
			}
			if need <= 1+lets {
				expectOK(t, p)
			} else {
				expect(t, p, 0, lets, api.ErrVerifyCode)
			}
		}
	}
}

// TestP22_1Attrs: attributes out of order, or out of place.
func TestP22_1Attrs(t *testing.T) {
	out := api.ErrVerifyShape
	for _, second := range []api.Op{attrP, boundP} {
		expect(t, one(second), 0, 0, out)
		expect(t, one(words, second), 0, 1, out)
		for _, between := range []api.Op{words, state, still, either(0, 0), let} {
			expect(t, one(open, between, second, shut), 0, 2, out)
			expect(t, one(open, attrP, between, second, shut), 0, 3, out)
		}
		expect(t, one(open, shut, second), 0, 2, out)
		expect(t, one(open, open, shut, second, shut), 0, 3, out)
		expect(t, one(open, let, drop(1), second, shut), 0, 3, out)
		for _, first := range []api.Op{attrP, boundP, attrQ, boundQ, op(api.OpAttr, 5, 0)} {
			expect(t, one(open, first, second, shut), 0, 2, out)
			expectOK(t, one(open, first, open, second, shut, shut))
			expectOK(t, one(open, first, shut, open, second, shut))
		}
	}
	for _, second := range []api.Op{attrQ, boundQ} {
		for _, first := range []api.Op{attrP, boundP} {
			expectOK(t, one(open, first, second, shut))
			expect(t, one(open, first, second, first, shut), 0, 3, out)
			expect(t, one(open, first, second, second, shut), 0, 3, out)
		}
	}
	// Not in the block of an OpIf right behind the beginning of an element.
	expect(t, program0(block(1, open, either(1, 0), shut), block(1, attrP)), 1, 0, out)
	// By the bytes of the name, not by its number or length; the same name under two numbers is one name.
	p := one(open, op(api.OpAttr, 0, 0), op(api.OpAttr, 1, 0), op(api.OpAttr, 2, 0), op(api.OpAttr, 3, 0), op(api.OpAttr, 4, 0), op(api.OpAttr, 5, 0), shut)
	p.Texts = []string{"a", "a-", "a0", "aa", "ab", "b"}
	expectOK(t, p)
	for at := 1; at < 6; at++ {
		bent := p
		bent.Texts = slices.Clone(p.Texts)
		bent.Texts[at] = bent.Texts[at-1]
		expect(t, bent, 0, at+1, out)
		bent.Texts[at], bent.Texts[at-1] = p.Texts[at-1], p.Texts[at]
		expect(t, bent, 0, at+1, out)
	}
}

// TestP22_1Elements: such as are not closed, or closed too often.
func TestP22_1Elements(t *testing.T) {
	out := api.ErrVerifyShape
	expect(t, one(shut), 0, 0, out)
	expect(t, one(open), 0, 1, out)
	expect(t, one(open, shut, shut), 0, 2, out)
	expect(t, one(open, open, shut), 0, 3, out)
	expect(t, one(open, attrP), 0, 2, out)
	expect(t, one(words, open, words), 0, 3, out)
	// A block closes what it opened, and nothing of the block around.
	expect(t, program0(block(1, open, either(1, 0), shut), block(1, shut)), 1, 0, out)
	expect(t, program0(block(1, open, either(1, 0)), block(1, shut)), 0, 2, out)
	expect(t, program0(block(1, either(1, 0), shut), block(1, open)), 0, 1, out)
	expect(t, program0(block(1, either(1, 0)), block(1, open)), 1, 1, out)
}

// TestP22_1Lets: OpLets that are not dropped, OpDrops of too many.
func TestP22_1Lets(t *testing.T) {
	out := api.ErrVerifyShape
	expect(t, one(let), 0, 1, out)
	expect(t, one(let, let, drop(1)), 0, 3, out)
	expect(t, one(open, let, shut), 0, 2, out)
	expect(t, one(open, let, let, drop(1), shut, drop(1)), 0, 4, out)
	expect(t, one(let, open, shut), 0, 3, out)
	expect(t, one(drop(1)), 0, 0, out)
	expect(t, one(let, drop(2)), 0, 1, out)
	expect(t, one(let, drop(1), drop(1)), 0, 2, out)
	expect(t, one(let, let, drop(math.MaxInt64)), 0, 2, out)
	// Those ahead of an element are not dropped in it, but behind it.
	expect(t, one(let, open, drop(1), shut), 0, 2, out)
	expect(t, one(let, open, let, drop(2), shut), 0, 3, out)
	expect(t, one(let, let, open, let, drop(1), shut, drop(3)), 0, 6, out)
	expectOK(t, one(let, let, open, let, drop(1), shut, drop(2)))
	// A block drops its own, and none of the block around.
	expect(t, program0(block(1, let, either(1, 0), drop(1)), block(2, drop(1))), 1, 0, out)
	expect(t, program0(block(1, let, either(1, 0), drop(1)), block(2, let)), 1, 1, out)
	expect(t, program0(block(1, with(1, 0)), block(2, drop(1))), 1, 0, out)
	expect(t, program0(block(1, loop(1)), block(3, open, drop(1), shut)), 1, 1, out)
}

// TestP22_1Items: what the block of an OpFor may be.
func TestP22_1Items(t *testing.T) {
	for _, ops := range [][]api.Op{
		{still}, {open, shut}, {open, open, shut, shut}, {open, attrP, words, open, shut, state, shut}, {open, let, drop(1), shut}, {open, still, shut},
	} {
		expectOK(t, program0(block(1, loop(1)), block(3, ops...)))
	}
	for _, ops := range [][]api.Op{
		nil, {words}, {state}, {still, still}, {still, words}, {words, still}, {open, shut, open, shut}, {open, shut, still}, {open, shut, words}, {words, open, shut}, {still, open, shut}, {let, open, shut, drop(1)}, {let, drop(1)}, {open, shut, let, drop(1)}, {let, still, drop(1)}, {either(0, 0)}, {open, shut, either(0, 0)}, {either(0, 0), open, shut},
		{open, shut, open, shut, open, shut}, {open, open, shut, shut, open, open, shut, shut}, {open, shut, open, open, shut, shut},
	} {
		expect(t, program0(block(1, loop(1)), block(3, ops...)), 1, 0, api.ErrVerifyLoop)
		// Ahead of the updates, behind all else.
		p := program0(block(1, loop(1)), block(3, ops...))
		p.Blocks[1].Update = []int{-1}
		expect(t, p, 1, 0, api.ErrVerifyLoop)
		expect(t, program0(block(1, loop(1)), block(3, append(slices.Clone(ops), let)...)), 1, len(ops)+1, api.ErrVerifyShape)
		expect(t, program0(block(1, loop(1)), block(3, append(slices.Clone(ops), op(99))...)), 1, len(ops), api.ErrVerifyOp)
		// Blocks of an OpIf or OpWith may hold just that, in an OpFor too, and so may the whole.
		expectOK(t, one(ops...))
		expectOK(t, program0(block(1, either(1, 0)), block(1, ops...)))
		expectOK(t, program0(block(1, with(1, 0, 0)), block(3, ops...)))
		expectOK(t, program0(block(1, loop(1)), block(3, open, either(0, 2), with(3), shut), block(3, ops...), block(3, ops...)))
	}
	// An OpFor's block with nothing but another owner is no item.
	expect(t, program0(block(1, loop(1)), block(3, loop(2)), block(5, still)), 1, 0, api.ErrVerifyLoop)
	expect(t, program0(block(1, loop(1)), block(3, with(2)), block(3, still)), 1, 0, api.ErrVerifyLoop)
}

// TestP22_1Update: the places of an update rise, and are those of operations.
func TestP22_1Update(t *testing.T) {
	for _, c := range []struct {
		update []int
		place  int
	}{
		{nil, -1}, {[]int{}, -1}, {[]int{0}, -1}, {[]int{2}, -1}, {[]int{0, 2}, -1}, {[]int{0, 1, 2}, -1},
		{[]int{-1}, 0}, {[]int{3}, 0}, {[]int{math.MaxInt64}, 0}, {[]int{math.MinInt64}, 0}, {[]int{0, 0}, 1}, {[]int{2, 2}, 1}, {[]int{1, 0}, 1}, {[]int{0, 1, 3}, 2}, {[]int{0, 1, 2, 3}, 3}, {[]int{0, 1, 2, 2}, 3}, {[]int{0, 2, 1, -1}, 2}, {[]int{0, math.MaxInt64, math.MinInt64}, 1}, {[]int{5, -1}, 0},
	} {
		for number := range 3 {
			p := program0(block(1, open, either(1, 2), shut), block(1, words, words, words), block(1, state, state, still))
			p.Blocks[number].Update = c.update
			p.Blocks[2].Update = append(slices.Clone(p.Blocks[2].Update), 9)
			if c.place < 0 && number != 2 {
				expect(t, p, 2, 0, api.ErrVerifyUpdate)
				p.Blocks[2].Update = nil
				expectOK(t, p)
			} else if c.place < 0 {
				expect(t, p, 2, len(c.update), api.ErrVerifyUpdate)
			} else {
				expect(t, p, number, c.place, api.ErrVerifyUpdate)
			}
		}
	}
	p := program0(block(1))
	p.Blocks[0].Update = []int{0}
	expect(t, p, 0, 0, api.ErrVerifyUpdate)
}
