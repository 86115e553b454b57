package verify

import (
	"fmt"
	"slices"
	"strings"
	"testing"

	"stencil/api"
	"stencil/core"
	"stencil/forest"
)

// filled is a program whose texts, codes and statics are as many as said, the last of each named by an operation.
func filled(texts, codes, statics int) api.Program {
	return api.Program{
		Texts:   slices.Repeat([]string{"x"}, texts),
		Codes:   slices.Repeat([][]api.Inst{{{Op: api.IStr, A: texts - 1}}}, codes),
		Statics: slices.Repeat([]api.Tree{{Tag: "s"}}, statics),
		Blocks:  []api.Block{block(1, op(api.OpText, texts-1), op(api.OpTextX, codes-1), op(api.OpStatic, statics-1))},
	}
}

// TestP22_1Many: just so many texts, codes and statics, and one more.
func TestP22_1Many(t *testing.T) {
	t.Parallel()
	const mostTexts, mostCodes, mostStatics = 16384, 8192, 4096
	expectOK(t, filled(mostTexts, mostCodes, mostStatics))
	expect(t, filled(mostTexts+1, 1, 1), 0, mostTexts, api.ErrVerifyText)
	expect(t, filled(mostTexts+5, mostCodes+1, 1), 0, mostTexts, api.ErrVerifyText)
	expect(t, filled(mostTexts, mostCodes+1, 1), 0, mostCodes, api.ErrVerifyCode)
	expect(t, filled(1, mostCodes+7, mostStatics+1), 0, mostCodes, api.ErrVerifyCode)
	expect(t, filled(1, mostCodes, mostStatics+1), 0, mostStatics, api.ErrVerifyTree)
	expect(t, filled(1, 1, mostStatics+9), 0, mostStatics, api.ErrVerifyTree)
	// One that is wrong ahead of the one too many counts, one behind it does not.
	for _, at := range []int{0, 1, mostTexts - 1, mostTexts, mostTexts + 1} {
		p := filled(mostTexts+2, 1, 1)
		p.Texts[at] = "\xff"
		expect(t, p, 0, min(at, mostTexts), api.ErrVerifyText)
	}
	for _, at := range []int{0, 1, mostCodes - 1, mostCodes, mostCodes + 1} {
		p := filled(1, mostCodes+2, 1)
		p.Codes[at] = nil
		expect(t, p, 0, min(at, mostCodes), api.ErrVerifyCode)
	}
	for _, at := range []int{0, 1, mostStatics - 1, mostStatics, mostStatics + 1} {
		p := filled(1, 1, mostStatics+2)
		p.Statics[at] = api.Tree{}
		expect(t, p, 0, min(at, mostStatics), api.ErrVerifyTree)
	}
	// The last number is one, the next one none.
	for _, number := range []int{0, 1, 2} {
		p := filled(mostTexts, mostCodes, mostStatics)
		p.Blocks[0].Ops[number].A++
		expect(t, p, 0, number, api.ErrVerifyOp)
	}
}

// wide is so many blocks, all of which belong to block 0.
func wide(blocks int) api.Program {
	p := program0(block(1))
	for number := 1; number < blocks; number++ {
		p.Blocks[0].Ops = append(p.Blocks[0].Ops, with(number))
		p.Blocks = append(p.Blocks, block(1, words))
	}
	return p
}

// chain is so many blocks, each of which belongs to the one ahead of it.
func chain(blocks int) api.Program {
	var p api.Program
	for number := range blocks - 1 {
		p.Blocks = append(p.Blocks, block(1, words, with(number+1)))
	}
	p.Blocks = append(p.Blocks, block(1, words))
	return program0(p.Blocks...)
}

// TestP22_1ManyBlocks: just MaxBlocks blocks, and one more, whatever they are.
func TestP22_1ManyBlocks(t *testing.T) {
	t.Parallel()
	const most = 8192
	for _, made := range []func(int) api.Program{wide, chain} {
		for _, n := range []int{1, 2, most - 1, most} {
			expectOK(t, made(n))
		}
		expect(t, made(most+1), 0, 0, api.ErrVerifyBlock)
		p := made(most)
		p.Blocks[most-1].Update = []int{1}
		expect(t, p, most-1, 0, api.ErrVerifyUpdate)
		p.Blocks[most-1].Ops = nil
		p.Blocks[most-1].Depth = 2
		expect(t, p, most-1, 0, api.ErrVerifyDepth)
	}
	expect(t, program0(make([]api.Block, most+1)...), 0, 0, api.ErrVerifyBlock)
	expect(t, program0(make([]api.Block, most)...), 0, 0, api.ErrVerifyDepth)
	blocks := make([]api.Block, most)
	blocks[0].Depth = 1
	expect(t, program0(blocks...), 1, 0, api.ErrVerifyBlock)
	// A block's last number is one, the next one none.
	for _, owner := range []api.Op{with(most), loop(most), either(most, 0), either(0, most)} {
		p := chain(most)
		p.Blocks[0].Ops = append(p.Blocks[0].Ops, owner)
		expect(t, p, 0, 2, api.ErrVerifyBlock)
	}
}

// TestP22_1ManyOps: just MaxOps operations, and one more.
func TestP22_1ManyOps(t *testing.T) {
	t.Parallel()
	const most = 8192
	for _, ops := range [][]api.Op{times(most, words), slices.Concat(times(most/2, words), []api.Op{open}, times(most/2-2, still), []api.Op{shut}), slices.Repeat([]api.Op{open, attrP, shut, state}, most/4)} {
		p := one(ops...)
		for place := range ops {
			p.Blocks[0].Update = append(p.Blocks[0].Update, place)
		}
		expectOK(t, p)
		p.Blocks[0].Update[most-1]++
		expect(t, p, 0, most-1, api.ErrVerifyUpdate)
		for _, last := range []api.Op{words, shut, op(99), let, loop(-1)} {
			expect(t, one(append(slices.Clone(ops), last)...), 0, most, api.ErrVerifyOp)
			expect(t, one(append(slices.Clone(ops), last, last)...), 0, most, api.ErrVerifyOp)
			expect(t, program0(block(1, either(1, 0)), block(1, append(slices.Clone(ops), last)...)), 1, most, api.ErrVerifyOp)
		}
		bent := slices.Clone(ops)
		bent[most-1] = op(api.OpDrop, 1)
		expect(t, one(append(bent, words)...), 0, most-1, api.ErrVerifyShape)
	}
	// What is asked behind the last operation is asked behind the one too many.
	expect(t, one(times(most+1, let)...), 0, 63, api.ErrVerifyDepth)
	expect(t, one(append([]api.Op{open}, times(most, words)...)...), 0, most, api.ErrVerifyOp)
	expect(t, one(append([]api.Op{open}, times(most-1, words)...)...), 0, most, api.ErrVerifyShape)
	expect(t, program0(block(1, loop(1)), block(3, times(most+1, words)...)), 1, most, api.ErrVerifyOp)
	expect(t, program0(block(1, loop(1)), block(3, times(most, words)...)), 1, 0, api.ErrVerifyLoop)
	expectOK(t, program0(block(1, loop(1)), block(3, slices.Concat([]api.Op{open}, times(most-2, words), []api.Op{shut})...)))
}

// highest is a program over the sample's codes and two more: those ask for 64 and for 63 values.
func highest(blocks ...api.Block) api.Program {
	p := program0(blocks...)
	p.Codes = append(p.Codes, []api.Inst{{Op: api.IVar, A: 63}}, []api.Inst{{Op: api.IVar, A: 1}, {Op: api.IVar, A: 62}, {Op: api.IVar}, {Op: api.ICat}, {Op: api.ICat}})
	return p
}

const codeAt63, codeAt62 = codes, codes + 1

// TestP22_1Stack: just MaxStack values, and one more, by OpLets, in the block of an OpWith, in that of an OpFor.
func TestP22_1Stack(t *testing.T) {
	t.Parallel()
	const most = 64
	row := func(lets int, more ...api.Op) []api.Op {
		return slices.Concat(times(lets, let), more, []api.Op{drop(lets)})
	}
	// 1 value lies there already.
	expectOK(t, highest(block(1, row(most-1)...)))
	expect(t, highest(block(1, row(most)...)), 0, most-1, api.ErrVerifyDepth)
	expectOK(t, highest(block(1, row(most-1, op(api.OpTextX, codeAt63))...)))
	expect(t, highest(block(1, row(most-2, op(api.OpTextX, codeAt63))...)), 0, most-2, api.ErrVerifyCode)
	expectOK(t, highest(block(1, row(most-2, op(api.OpTextX, codeAt62))...)))
	expect(t, highest(block(1, row(most-3, op(api.OpTextX, codeAt62))...)), 0, most-3, api.ErrVerifyCode)
	expect(t, highest(block(1, row(most-1, op(api.OpLet, codes+2))...)), 0, most-1, api.ErrVerifyOp)
	for lets := 1; lets < most; lets++ {
		lie := 1 + lets
		for _, n := range []int{0, 1, most - lie, most - lie + 1, most - lie + 2, most} {
			p := highest(block(1, row(lets, with(1, make([]int, n)...))...), block(lie+n))
			switch {
			case n >= 0 && lie+n <= most:
				expectOK(t, p)
			default:
				expect(t, p, 0, lets, api.ErrVerifyDepth)
			}
		}
		// An OpFor's key may ask for two more, and is asked for ahead of how many there may be.
		p := highest(block(1, row(lets, op(api.OpFor, codeNull, codeAt63, 1))...), block(lie+2, still))
		switch {
		case lie+2 < most:
			expect(t, p, 0, lets, api.ErrVerifyCode)
		case lie+2 == most:
			expectOK(t, p)
		default:
			expect(t, p, 0, lets, api.ErrVerifyDepth)
		}
		p.Blocks[0].Ops[lets].B = codeNull
		if lie+2 > most {
			expect(t, p, 0, lets, api.ErrVerifyDepth)
		} else {
			expectOK(t, p)
		}
		// The block of an OpIf has no more.
		expectOK(t, highest(block(1, row(lets, either(1, 0))...), block(lie, words)))
	}
	expectOK(t, highest(block(1, with(1, make([]int, most-1)...)), block(most, op(api.OpTextX, codeAt63), with(2), either(3, 0)), block(most), block(most)))
	expect(t, highest(block(1, with(1, make([]int, most-1)...)), block(most, words, let)), 1, 1, api.ErrVerifyDepth)
	expect(t, highest(block(1, with(1, make([]int, most-1)...)), block(most, words, with(2, 0)), block(most+1)), 1, 1, api.ErrVerifyDepth)
	expect(t, highest(block(1, with(1, make([]int, most-1)...)), block(most, loop(2)), block(most+2, still)), 1, 0, api.ErrVerifyDepth)
	expect(t, highest(block(1, with(1, make([]int, most)...)), block(most+1)), 0, 0, api.ErrVerifyDepth)
	expect(t, highest(block(1, with(1, make([]int, most+1)...)), block(most+2)), 0, 0, api.ErrVerifyOp)
	expect(t, highest(block(1, with(1, make([]int, 100000)...)), block(100001)), 0, 0, api.ErrVerifyOp)
}

// nested is a row of blocks, each of which holds in one element the next owner of those; the last one holds the tail.
func nested(owners []int, tail ...api.Op) []api.Block {
	var out []api.Block
	depth := 1
	for i, kind := range owners {
		owner := api.Op{Kind: kind, C: i + 1}
		out = append(out, block(depth, open, owner, shut))
		if kind == api.OpFor {
			depth += 2
		}
	}
	return append(out, block(depth, slices.Concat([]api.Op{open}, tail, []api.Op{shut})...))
}

// TestP22_1Loops: just MaxLoops OpFors around one another, and one more, with OpIfs and OpWiths between; such as stand side by side do not count.
func TestP22_1Loops(t *testing.T) {
	t.Parallel()
	const most = 8
	for _, between := range [][]int{nil, {api.OpIf}, {api.OpWith}, {api.OpIf, api.OpWith, api.OpIf}} {
		var owners []int
		for range most {
			owners = slices.Concat(owners, between, []int{api.OpFor})
		}
		owners = append(owners, between...)
		for n := range most + 1 {
			expectOK(t, program0(nested(owners[n*(len(between)+1):])...))
		}
		expectOK(t, program0(append(nested(owners, with(len(owners)+1)), block(1+2*most))...))
		last := len(owners)
		expect(t, program0(append(nested(owners, words, loop(last+1)), block(3+2*most, still))...), last, 2, api.ErrVerifyLoop)
		// All of its other faults count ahead of it, the block that comes then behind it.
		expect(t, program0(nested(owners, words, loop(last+1))...), last, 2, api.ErrVerifyBlock)
		expect(t, program0(append(nested(owners, words, op(api.OpFor, -1, 0, last+1)), block(3+2*most, still))...), last, 2, api.ErrVerifyOp)
		expect(t, program0(append(nested(owners, words, loop(last+1)), block(-1, op(99)))...), last, 2, api.ErrVerifyLoop)
	}
	p := program0(block(1))
	for number := 1; number < 40; number++ {
		p.Blocks[0].Ops = append(p.Blocks[0].Ops, loop(number))
		p.Blocks = append(p.Blocks, block(3, open, shut))
	}
	expectOK(t, p)
}

// TestP22_1Deep: elements 2 MaxNest - 1 deep, and one more, in one block or in blocks in one another.
func TestP22_1Deep(t *testing.T) {
	t.Parallel()
	const most = 63
	for n := 1; n <= most; n++ {
		expectOK(t, one(slices.Concat(times(n, open), times(n, shut), times(n, open), times(n, shut))...))
		// Texts in the innermost one lie one deeper.
		expectOK(t, one(slices.Concat(times(n, open), []api.Op{attrP, words, state, let, drop(1), either(0, 0)}, times(n, shut))...))
	}
	for _, inner := range [][]api.Op{nil, {words}, {state}, {attrP}, {open, shut}, {still}} {
		p := one(slices.Concat(times(most+1, open), inner, times(most+1, shut))...)
		expect(t, p, 0, most, api.ErrVerifyShape)
		if got := judged(p); got != (found{0, most, api.ErrVerifyShape}) {
			t.Errorf("%v was asked for", got)
		}
	}
	expect(t, one(times(most+1, open)...), 0, most, api.ErrVerifyShape)
	expect(t, one(slices.Concat([]api.Op{open, shut}, times(most+1, open), times(most+1, shut))...), 0, most+2, api.ErrVerifyShape)
	for _, kind := range []int{api.OpIf, api.OpWith} {
		for n := 1; n < most; n += 7 {
			owners := slices.Repeat([]int{kind}, n)
			// So many lie around the last block's tail already.
			lie := n + 1
			inner := func(more int) []api.Op { return slices.Concat(times(more, open), []api.Op{words}, times(more, shut)) }
			expectOK(t, program0(nested(owners, inner(most-lie)...)...))
			expect(t, program0(nested(owners, inner(most-lie+1)...)...), n, most-lie+1, api.ErrVerifyShape)
			expect(t, program0(nested(slices.Repeat([]int{kind}, most+n))...), most, 0, api.ErrVerifyShape)
		}
	}
	// An OpFor's block must begin with an element of its own, or a static.
	for _, lie := range []int{most - 1, most} {
		around := slices.Concat(times(lie, open), []api.Op{loop(1)}, times(lie, shut))
		expectOK(t, program0(block(1, around...), block(3, still)))
		if lie < most {
			expectOK(t, program0(block(1, around...), block(3, open, shut)))
		} else {
			expect(t, program0(block(1, around...), block(3, open, shut)), 1, 0, api.ErrVerifyShape)
		}
	}
}

// TestP22_1DeepAsCore: as many elements may lie in one another as in a core, and chapter 7 takes what they make, with a text in the innermost.
func TestP22_1DeepAsCore(t *testing.T) {
	for n := 1; n < 70; n++ {
		tree, node := api.Tree{Text: "x"}, api.Core{Kind: api.CText, Parts: []api.Part{{Plain: "x"}}}
		for range n {
			tree = api.Tree{Tag: "p", Kids: []api.Tree{tree}}
			node = api.Core{Kind: api.CElem, Tag: "p", Kids: []api.Core{node}}
		}
		_, _, fault := Verify(one(slices.Concat(times(n, open), []api.Op{words}, times(n, shut))...))
		if may := fault == api.OK; may != (core.Check([]api.Core{node}) == api.OK) || may != (forest.Check([]api.Tree{tree}) == api.OK) {
			t.Errorf("%d elements in one another: %d", n, fault)
		}
	}
}

// TestP22_1DeepStatics: statics of each depth, at the deepest place where they may lie, and one deeper.
func TestP22_1DeepStatics(t *testing.T) {
	t.Parallel()
	const most = 64
	for tall := 1; tall <= most; tall++ {
		p := one()
		p.Statics = append(p.Statics, tower(tall), api.Tree{Tag: "w", Kids: []api.Tree{{Text: "x"}, {Tag: "y"}}})
		p.Statics[statics+1].Kids = append(p.Statics[statics+1].Kids, tower(tall).Kids...)
		static := op(api.OpStatic, statics)
		for _, lie := range []int{0, most - tall, min(most-tall+1, most-1), most - 1} {
			bent := p
			bent.Blocks = []api.Block{block(1, slices.Concat(times(lie, open), []api.Op{static}, times(lie, shut))...)}
			if lie+tall <= most {
				expectOK(t, bent)
			} else {
				expect(t, bent, 0, lie, api.ErrVerifyShape)
			}
			if lie == 0 {
				continue
			}
			// The same, with the block of an OpIf around the static.
			bent.Blocks = []api.Block{block(1, slices.Concat(times(lie, open), []api.Op{either(0, 1)}, times(lie, shut))...), block(1, words, static)}
			if lie+tall <= most {
				expectOK(t, bent)
			} else {
				expect(t, bent, 1, 1, api.ErrVerifyShape)
			}
		}
	}
	// The elements of an element that has ended are not around.
	p := one(slices.Concat(times(63, open), times(63, shut), []api.Op{either(1, 0)})...)
	p.Statics = append(p.Statics, tower(64))
	p.Blocks = append(p.Blocks, block(1, op(api.OpStatic, statics)))
	expectOK(t, p)
}

// TestP22_1Tags: tags of just MaxName bytes, and of one more, wherever a tag must stand.
func TestP22_1Tags(t *testing.T) {
	for _, c := range []struct {
		s  string
		ok bool
	}{
		{strings.Repeat("a", 32), true}, {strings.Repeat("a", 33), false}, {"a", true}, {"", false}, {"a-", true}, {"-a", false}, {"a_", false}, {"a1", true}, {"1a", false}, {"A", false}, {"aB", false}, {"é", false}, {"a b", false}, {"a\x00", false},
	} {
		for _, o := range []api.Op{op(api.OpOpen, 1), op(api.OpAttr, 1, 1), op(api.OpAttrX, 1, 0), op(api.OpText, 1), op(api.OpAttr, 0, 1)} {
			ops := []api.Op{open, o, shut}
			if o.Kind == api.OpOpen {
				ops = append(ops, shut)
			}
			p := one(ops...)
			p.Texts = []string{"p", c.s}
			p.Codes = p.Codes[:1]
			if c.ok || o.A == 0 || o.Kind == api.OpText {
				expectOK(t, p)
			} else {
				expect(t, p, 0, 1, api.ErrVerifyOp)
			}
		}
	}
}

// bends are ways to make a program wrong that do not hinder one another, in the promise's row, each with what is told if it is the first one.
func bends() []struct {
	bend func(p *api.Program)
	want found
} {
	ops := func(number int, place int, o api.Op) func(p *api.Program) {
		return func(p *api.Program) { p.Blocks[number].Ops[place] = o }
	}
	return []struct {
		bend func(p *api.Program)
		want found
	}{
		{func(p *api.Program) { p.Texts[4] = "\xff" }, found{0, 4, api.ErrVerifyText}},
		{func(p *api.Program) { p.Texts = append(p.Texts, strings.Repeat("x", 4097)) }, found{0, 6, api.ErrVerifyText}},
		{func(p *api.Program) { p.Codes[4] = nil }, found{0, 4, api.ErrVerifyCode}},
		{func(p *api.Program) { p.Codes = append(p.Codes, nil) }, found{0, 5, api.ErrVerifyCode}},
		{func(p *api.Program) { p.Statics[1].Tag = "" }, found{0, 1, api.ErrVerifyTree}},
		{func(p *api.Program) { p.Blocks = append(p.Blocks, make([]api.Block, 8192)...) }, found{0, 0, api.ErrVerifyBlock}},
		{func(p *api.Program) { p.Blocks[0].Depth = 3 }, found{0, 0, api.ErrVerifyDepth}},
		{ops(0, 0, op(13)), found{0, 0, api.ErrVerifyOp}},
		{ops(0, 1, op(api.OpTextX, codeAt1)), found{0, 1, api.ErrVerifyCode}},
		{ops(0, 2, attrP), found{0, 2, api.ErrVerifyShape}},
		{ops(0, 3, with(-1)), found{0, 3, api.ErrVerifyBlock}},
		{ops(0, 4, with(2, make([]int, 64)...)), found{0, 4, api.ErrVerifyDepth}},
		{ops(0, 7, words), found{0, 8, api.ErrVerifyShape}},
		{func(p *api.Program) { p.Blocks[0].Update = []int{0, 3, 3} }, found{0, 2, api.ErrVerifyUpdate}},
		{ops(0, 6, words), found{1, 0, api.ErrVerifyBlock}},
		{func(p *api.Program) { p.Blocks[1].Depth = 2 }, found{1, 0, api.ErrVerifyDepth}},
		{ops(1, 1, loop(4)), found{1, 1, api.ErrVerifyBlock}},
		{ops(1, 1, let), found{1, 2, api.ErrVerifyShape}},
		{func(p *api.Program) { p.Blocks[1].Ops = append(p.Blocks[1].Ops, still) }, found{1, 0, api.ErrVerifyLoop}},
		{func(p *api.Program) { p.Blocks[1].Update = []int{-1} }, found{1, 0, api.ErrVerifyUpdate}},
		{func(p *api.Program) { p.Blocks[2].Depth = 9 }, found{2, 0, api.ErrVerifyDepth}},
		{func(p *api.Program) { p.Blocks[2].Update = []int{0, 9} }, found{2, 1, api.ErrVerifyUpdate}},
	}
}

// TestP22_1First: where several are wrong at once, the first one as the promise has them.
func TestP22_1First(t *testing.T) {
	right := func() api.Program {
		return copyOf(program0(
			block(1, words, state, still, either(0, 0), with(2, codeNull), open, loop(1), shut),
			block(3, open, words, shut),
			block(2, op(api.OpTextX, codeAt1)),
		))
	}
	expectOK(t, right())
	all := bends()
	for i, first := range all {
		for _, second := range append(all[i+1:], first) {
			p := right()
			second.bend(&p)
			first.bend(&p)
			expect(t, p, first.want.block, first.want.place, first.want.code)
		}
	}
	for i := range all {
		p := right()
		for _, b := range slices.Backward(all[i:]) {
			b.bend(&p)
		}
		if got, want := verified(p), judged(p); got != want {
			t.Errorf("from %d on: %v, want %v", i, got, want)
		}
	}
}

// TestP22_1FirstOfOne: what is asked of one operation, taken away one by one.
func TestP22_1FirstOfOne(t *testing.T) {
	owners := slices.Repeat([]int{api.OpFor}, 8)
	in := func(o api.Op, more ...api.Op) api.Program {
		return program0(append(nested(owners, append(more, o)...), block(19, still))...)
	}
	full := times(46, let)
	for _, c := range []struct {
		p     api.Program
		place int
		want  api.Errno
	}{
		{in(api.Op{Kind: api.OpFor, A: codes, B: codeNull, C: -1}, full...), 47, api.ErrVerifyOp},
		{in(api.Op{Kind: api.OpFor, A: 5, B: codeNull, C: -1, List: []int{0}}, full...), 47, api.ErrVerifyOp},
		{in(loop(-1), full...), 47, api.ErrVerifyBlock},
		{in(loop(9), full...), 47, api.ErrVerifyDepth},
		{in(loop(9)), 1, api.ErrVerifyLoop},
		{in(with(-1, make([]int, 65)...)), 1, api.ErrVerifyOp},
		{in(with(-1, make([]int, 64)...)), 1, api.ErrVerifyBlock},
		{in(with(9, make([]int, 64)...)), 1, api.ErrVerifyDepth},
		{one(op(api.OpFor, codeAt1, codeNull, -1)), 0, api.ErrVerifyCode},
		{one(op(api.OpFor, codeNull, codeAt2, -1)), 0, api.ErrVerifyBlock},
		{one(op(api.OpIf, codeAt1, -1, -1)), 0, api.ErrVerifyCode},
		{one(op(api.OpIf, codeAt0, -1, -1)), 0, api.ErrVerifyBlock},
		{one(with(-1, codeNull, codeAt1)), 0, api.ErrVerifyCode},
		{one(op(api.OpAttrX, textNoTag, codeAt1)), 0, api.ErrVerifyOp},
		{one(op(api.OpAttrX, textP, codeAt1)), 0, api.ErrVerifyCode},
		{one(op(api.OpAttrX, textP, codeAt0)), 0, api.ErrVerifyShape},
		{one(op(api.OpAttr, textNoTag, 0)), 0, api.ErrVerifyOp},
		{one(op(api.OpClose, 1)), 0, api.ErrVerifyOp},
		{one(op(api.OpDrop, 1, 1)), 0, api.ErrVerifyOp},
		{one(op(api.OpDrop, -1)), 0, api.ErrVerifyOp},
		{one(append(times(63, open), op(api.OpOpen, textNoTag))...), 63, api.ErrVerifyOp},
		{one(append(times(63, open), op(api.OpStatic, statics))...), 63, api.ErrVerifyOp},
		{one(append(times(63, let), op(api.OpLet, codes))...), 63, api.ErrVerifyOp},
		{one(append(times(63, let), op(api.OpLet, 0, 1))...), 63, api.ErrVerifyOp},
	} {
		number := 0
		if len(c.p.Blocks) > 1 {
			number = 8
		}
		expect(t, c.p, number, c.place, c.want)
		if got := judged(c.p); got != (found{number, c.place, c.want}) {
			t.Errorf("%s: %v was asked for", shown(c.p.Blocks), got)
		}
	}
	// Of two operations the first one's fault counts, whatever it is.
	wrong := map[api.Errno]api.Op{api.ErrVerifyOp: op(99), api.ErrVerifyCode: op(api.OpTextX, codeAt1), api.ErrVerifyShape: shut, api.ErrVerifyBlock: with(0), api.ErrVerifyDepth: with(1, make([]int, 64)...)}
	for code, first := range wrong {
		for _, second := range wrong {
			t.Run(fmt.Sprint(code, second.Kind), func(t *testing.T) {
				expect(t, program0(block(1, words, first, second), block(1)), 0, 1, code)
			})
		}
	}
}
