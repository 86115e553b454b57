package program

import (
	"bytes"
	"math"
	"slices"
	"strings"
	"testing"

	"stencil/api"
)

// join is a row of bytes: numbers from 0 to 255 as they are, texts as their bytes, rows as they are.
func join(parts ...any) []byte {
	var out []byte
	for _, part := range parts {
		switch x := part.(type) {
		case int:
			out = append(out, byte(x))
		case rune:
			out = append(out, byte(x))
		case string:
			out = append(out, x...)
		case []byte:
			out = append(out, x...)
		}
	}
	return out
}

func elem(tag string, kids ...api.Tree) api.Tree { return api.Tree{Tag: tag, Kids: kids} }

func text(s string) api.Tree { return api.Tree{Text: s} }

// withAttrs is an element with attributes: name, value, name, value ..
func withAttrs(tag string, words ...string) api.Tree {
	tree := api.Tree{Tag: tag}
	for i := 0; i < len(words); i += 2 {
		tree.Attrs = append(tree.Attrs, api.Attr{Name: words[i], Value: words[i+1]})
	}
	return tree
}

// statics is a program of these trees.
func statics(trees ...api.Tree) api.Program { return api.Program{Statics: trees} }

// ops is a program of one block with these operations.
func ops(all ...api.Op) api.Program { return api.Program{Blocks: []api.Block{{Ops: all}}} }

// insts is a program of one code with these instructions.
func insts(all ...api.Inst) api.Program { return api.Program{Codes: [][]api.Inst{all}} }

// TestP21Table: what the chapter's table has.
func TestP21Table(t *testing.T) {
	expectBoth(t, api.Program{}, join(1, 0, 0, 0, 0))
	expectFault(t, nil, 0)
	expectFault(t, join(2), 0)
	expectFault(t, join(1, 0, 0, 0), 4)
	expectFault(t, join(1, 0, 0, 0, 0, 0), 5)
	expectFault(t, join(1, 1, 1, 0xff, 0, 0, 0), 2)
	expectFault(t, join(1, 1, 1, 0xff), 2)
}

// TestP21Bytes: each field of a program, with several values, byte by byte.
func TestP21Bytes(t *testing.T) {
	for _, c := range []struct {
		p api.Program
		b []byte
	}{
		{api.Program{Texts: []string{""}}, join(1, 1, 0, 0, 0, 0)},
		{api.Program{Texts: []string{"ab", "", "é\x00", "\U0010ffff"}}, join(1, 4, 2, "ab", 0, 3, 0xc3, 0xa9, 0, 4, 0xf4, 0x8f, 0xbf, 0xbf, 0, 0, 0)},
		{api.Program{Texts: []string{strings.Repeat("x", 127), strings.Repeat("y", 128)}}, join(1, 2, 127, strings.Repeat("x", 127), 0x80, 1, strings.Repeat("y", 128), 0, 0, 0)},
		{api.Program{Texts: make([]string, 128)}, join(1, 0x80, 1, make([]byte, 128), 0, 0, 0)},
		{api.Program{Codes: [][]api.Inst{nil}}, join(1, 0, 1, 0, 0, 0)},
		{insts(api.Inst{}), join(1, 0, 1, 1, 0, 0, 0, 0)},
		{api.Program{Codes: [][]api.Inst{{{Op: 1}, {Op: 127, A: 1}}, {}, {{Op: 128, A: -1}, {Op: 255, A: 63}, {Op: 0, A: 64}}}}, join(1, 0, 3, 2, 1, 0, 127, 2, 0, 3, 128, 1, 255, 126, 0, 0x80, 1, 0, 0)},
		{insts(api.Inst{Op: 4, A: -64}, api.Inst{Op: 4, A: -65}, api.Inst{Op: 4, A: 1 << 32}), join(1, 0, 1, 3, 4, 127, 4, 0x81, 1, 4, 0x80, 0x80, 0x80, 0x80, 0x20, 0, 0)},
		{statics(text(""), text("x<é"), elem("p")), join(1, 0, 0, 3, 0, 0, 0, 4, "x<é", 1, 'p', 0, 0, 0)},
		{statics(withAttrs("x-1", "a", "", "b", "é")), join(1, 0, 0, 1, 3, "x-1", 2, 1, 'a', 0, 1, 'b', 2, "é", 0, 0)},
		{statics(elem("p", elem("q", text("1"), elem("r")), text("2")), elem("s")), join(1, 0, 0, 2, 1, 'p', 0, 2, 1, 'q', 0, 2, 0, 1, '1', 1, 'r', 0, 0, 0, 1, '2', 1, 's', 0, 0, 0)},
		{api.Program{Blocks: []api.Block{{}}}, join(1, 0, 0, 0, 1, 0, 0, 0)},
		{api.Program{Blocks: []api.Block{{Depth: 1}, {Depth: 64}, {Depth: 2}}}, join(1, 0, 0, 0, 3, 1, 0, 0, 64, 0, 0, 2, 0, 0)},
		{ops(api.Op{Kind: 1, A: 2, B: 3, C: 4}), join(1, 0, 0, 0, 1, 0, 1, 1, 4, 6, 8, 0, 0)},
		{ops(api.Op{Kind: 255, A: -1, B: 64, C: -65}, api.Op{Kind: 128}), join(1, 0, 0, 0, 1, 0, 2, 255, 1, 0x80, 1, 0x81, 1, 0, 128, 0, 0, 0, 0, 0)},
		{ops(api.Op{Kind: 10, List: []int{7}}, api.Op{List: []int{-1, 0, 1}}), join(1, 0, 0, 0, 1, 0, 2, 10, 0, 0, 0, 1, 14, 0, 0, 0, 0, 3, 1, 0, 2, 0)},
		{api.Program{Blocks: []api.Block{{Update: []int{0, 5, -3}}, {Depth: 3, Ops: []api.Op{{Kind: 6}}, Update: []int{1}}}}, join(1, 0, 0, 0, 2, 0, 0, 3, 0, 10, 5, 3, 1, 6, 0, 0, 0, 0, 1, 2)},
		{api.Program{Texts: []string{"t"}, Codes: [][]api.Inst{{{Op: 5, A: 9}}}, Statics: []api.Tree{elem("p")}, Blocks: []api.Block{{Depth: 1}}}, join(1, 1, 1, 't', 1, 1, 5, 18, 1, 1, 'p', 0, 0, 1, 1, 0, 0)},
	} {
		expectBoth(t, c.p, c.b)
		expectScribed(t, c.p)
		if verdict(c.b) >= 0 || !lawful(c.p) {
			t.Errorf("the second way does not take %v", c.b)
		}
	}
}

// TestP21Empty: an empty list is written as none.
func TestP21Empty(t *testing.T) {
	p := api.Program{Texts: []string{}, Codes: [][]api.Inst{{}}, Statics: []api.Tree{{Tag: "p", Attrs: []api.Attr{}, Kids: []api.Tree{}}, {Attrs: []api.Attr{}, Kids: []api.Tree{}}}, Blocks: []api.Block{{Ops: []api.Op{{List: []int{}}}, Update: []int{}}}}
	expectBoth(t, p, join(1, 0, 1, 0, 2, 1, 'p', 0, 0, 0, 0, 1, 0, 1, 0, 0, 0, 0, 0, 0))
}

// wholesOf are programs with x where a whole may stand.
func wholesOf(x int) []api.Program {
	return []api.Program{
		insts(api.Inst{A: x}), ops(api.Op{A: x}), ops(api.Op{B: x}), ops(api.Op{C: x}), ops(api.Op{List: []int{x}}), ops(api.Op{List: []int{0, x, 1}}),
		{Blocks: []api.Block{{Update: []int{x}}}}, {Blocks: []api.Block{{Update: []int{3, x}}, {}}},
	}
}

// TestP21Wholes: every length of a whole, in each place of one, the least and the greatest too.
func TestP21Wholes(t *testing.T) {
	all := []int{0, 1, -1, math.MaxInt64, math.MinInt64, math.MaxInt64 - 1, math.MinInt64 + 1}
	for bits := range 63 {
		all = append(all, 1<<bits-1, 1<<bits, -1<<bits, -1<<bits-1)
	}
	for _, x := range all {
		for _, p := range wholesOf(x) {
			expectScribed(t, p)
		}
	}
	nine := bytes.Repeat([]byte{0xff}, 9)
	expectBoth(t, insts(api.Inst{Op: 4, A: math.MinInt64}), join(1, 0, 1, 1, 4, nine, 1, 0, 0))
	expectBoth(t, insts(api.Inst{Op: 4, A: math.MaxInt64}), join(1, 0, 1, 1, 4, 0xfe, nine[:8], 1, 0, 0))
}

// TestP21Octets: an Op and a Kind are a byte each, of any value, whether it means something or not.
func TestP21Octets(t *testing.T) {
	for x := range 256 {
		expectBoth(t, insts(api.Inst{Op: x}), join(1, 0, 1, 1, x, 0, 0, 0))
		expectBoth(t, ops(api.Op{Kind: x}), join(1, 0, 0, 0, 1, 0, 1, x, 0, 0, 0, 0, 0))
	}
	for _, x := range []int{-1, 256, -256, 257, 1 << 8 << 24, math.MaxInt64, math.MinInt64} {
		for _, inst := range [][]api.Inst{{{Op: x}}, {{Op: 1}, {Op: x}}, {{Op: x}, {Op: 1}}} {
			expectNoBytes(t, insts(inst...), api.ErrProgramForm)
			expectNoBytes(t, api.Program{Codes: [][]api.Inst{nil, inst, {{Op: 3}}}}, api.ErrProgramForm)
		}
		expectNoBytes(t, ops(api.Op{Kind: x}), api.ErrProgramForm)
		expectNoBytes(t, ops(api.Op{}, api.Op{Kind: x}, api.Op{Kind: 1}), api.ErrProgramForm)
		expectNoBytes(t, api.Program{Blocks: []api.Block{{}, {Ops: []api.Op{{Kind: x}}}, {}}}, api.ErrProgramForm)
	}
}

// TestP21Depths: a Depth is from 0 to MaxStack.
func TestP21Depths(t *testing.T) {
	for depth := range 65 {
		expectBoth(t, api.Program{Blocks: []api.Block{{Depth: depth}}}, join(1, 0, 0, 0, 1, depth, 0, 0))
	}
	for _, depth := range []int{-1, 65, 128, 256, 1 << 32, math.MaxInt64, math.MinInt64} {
		expectNoBytes(t, api.Program{Blocks: []api.Block{{Depth: depth}}}, api.ErrProgramForm)
		expectNoBytes(t, api.Program{Blocks: []api.Block{{Depth: 64}, {Depth: depth}, {}}}, api.ErrProgramForm)
	}
}

// wrongTexts are none.
func wrongTexts() []string {
	return []string{"\xff", "a\xc3", "\xed\xa0\x80", "\xc0\x80", "\xf4\x90\x80\x80", "é"[1:], strings.Repeat("x", 4097), strings.Repeat("x", 4095) + "é", strings.Repeat("x", 4095) + "\xff"}
}

// wrongTrees are none that forest.Check takes, each by itself.
func wrongTrees() []api.Tree {
	trees := []api.Tree{
		{Tag: "P"}, {Tag: "a_b"}, {Tag: "1"}, {Tag: "-a"}, {Tag: " "}, {Tag: "é"}, {Tag: strings.Repeat("a", 33)}, {Tag: "p", Text: "x"},
		{Text: "x", Kids: []api.Tree{{}}}, {Attrs: []api.Attr{{Name: "a"}}}, {Kids: []api.Tree{{}}},
		withAttrs("p", "", ""), withAttrs("p", "A", ""), withAttrs("p", "a", "", "a", ""), withAttrs("p", "b", "", "a", ""), withAttrs("p", "a", "", "c", "", "b", ""), withAttrs("p", "a", "", "a_b", ""), withAttrs("p", "a-", "", "a", ""), withAttrs("p", strings.Repeat("a", 33), ""),
	}
	for _, s := range wrongTexts() {
		trees = append(trees, text(s), elem(s), withAttrs("p", s, ""), withAttrs("p", "a", s), withAttrs("p", "a", "", "b", s))
	}
	return trees
}

// TestP21_1Texts: each text of a program must be one, wherever it stands.
func TestP21_1Texts(t *testing.T) {
	for _, s := range wrongTexts() {
		for _, texts := range [][]string{{s}, {"a", s}, {s, "a"}, {"", s, ""}} {
			expectNoBytes(t, api.Program{Texts: texts}, api.ErrProgramForm)
		}
	}
}

// TestP21_1Trees: each static must be a tree that may be, by itself and with all in it.
func TestP21_1Trees(t *testing.T) {
	for _, tree := range wrongTrees() {
		expectNoBytes(t, statics(tree), api.ErrProgramForm)
		expectNoBytes(t, statics(elem("p"), tree), api.ErrProgramForm)
		expectNoBytes(t, statics(tree, elem("p")), api.ErrProgramForm)
		expectNoBytes(t, statics(elem("p", text("a"), elem("q", tree), text("b"))), api.ErrProgramForm)
		if lawful(statics(tree)) {
			t.Errorf("the second way takes %s", shown(tree))
		}
	}
	expectScribed(t, statics(text(strings.Repeat("x", 4096)), elem(strings.Repeat("a", 32)), withAttrs("a-1", "a", "", "a-", "1", "a-b", "\x00\"", strings.Repeat("b", 32), strings.Repeat("é", 2048))))
}

// TestP21_2Cut: a program that is cut is refused at the piece that is cut, or would come next.
func TestP21_2Cut(t *testing.T) {
	m := newMaker(211)
	programs := []api.Program{{}, {Texts: []string{"", "é", strings.Repeat("x", 300)}}, {Blocks: []api.Block{{Depth: 64, Ops: []api.Op{{Kind: 9, A: math.MinInt64, B: -1, C: 1 << 40, List: []int{math.MaxInt64, 1 << 20}}}, Update: []int{300, math.MinInt64}}}}}
	programs = append(programs, insts(api.Inst{Op: 255, A: math.MinInt64}, api.Inst{Op: 128, A: 1000}), statics(elem("p", withAttrs("q", "a", "éé", "b", strings.Repeat("y", 200)), text("é"))))
	for range 60 {
		programs = append(programs, m.program())
	}
	for _, p := range programs {
		s := scribed(p)
		piece := -1
		for size := range s.bytes {
			if piece+1 < len(s.starts) && s.starts[piece+1] == size {
				piece++
			}
			expectFault(t, s.bytes[:size], s.starts[piece])
			// What lies behind the end of a list is not read.
			expectFault(t, slices.Clip(s.bytes[:size]), s.starts[piece])
		}
		if piece+1 != len(s.starts) {
			t.Errorf("only %d pieces of %d were cut", piece+1, len(s.starts))
		}
	}
}

// TestP21_2Behind: nothing stands behind the last block, whatever it is.
func TestP21_2Behind(t *testing.T) {
	m := newMaker(212)
	for range 40 {
		b := scribed(m.program()).bytes
		for c := range 256 {
			expectFault(t, join(b, c), len(b))
		}
		expectFault(t, join(b, b), len(b))
		expectFault(t, join(b, 0xff, 0xff, 0xff), len(b))
	}
}

// TestP21_2Version: the first byte is 1.
func TestP21_2Version(t *testing.T) {
	for c := range 256 {
		if c != 1 {
			expectFault(t, join(c), 0)
			expectFault(t, join(c, 0, 0, 0, 0), 0)
			expectFault(t, join(c, 0xff), 0)
		}
	}
	expectFault(t, join(0x81, 0, 0, 0, 0, 0), 0)
}

// badNumbers are bytes that are no number: cut, too long, of another form than the one.
func badNumbers() [][]byte {
	nine := bytes.Repeat([]byte{0xff}, 9)
	return [][]byte{{0x80, 0}, {0x81, 0}, {0xff, 0x80, 0}, join(nine, 2), join(nine, 0), join(nine, 0x81), join(nine, 0xff, 0), bytes.Repeat([]byte{0x80}, 10), join(bytes.Repeat([]byte{0x80}, 9), 0), join(bytes.Repeat([]byte{0x80}, 10), 1)}
}

// slots are the bytes ahead of each number and whole that a program may have, with the greatest that may stand there; 0, if any may.
func slots() map[string]struct {
	ahead []byte
	limit int
} {
	return map[string]struct {
		ahead []byte
		limit int
	}{
		"texts": {join(1), 16384}, "text": {join(1, 1), 4096}, "second text": {join(1, 2, 1, 'a'), 4096},
		"codes": {join(1, 0), 8192}, "code": {join(1, 0, 1), 8192}, "inst": {join(1, 0, 1, 1, 4), 0},
		"statics": {join(1, 0, 0), 4096}, "tag": {join(1, 0, 0, 1), 4096}, "node's text": {join(1, 0, 0, 1, 0), 4096},
		"attrs": {join(1, 0, 0, 1, 1, 'p'), 4096}, "name": {join(1, 0, 0, 1, 1, 'p', 1), 4096}, "value": {join(1, 0, 0, 1, 1, 'p', 1, 1, 'a'), 4096},
		"kids": {join(1, 0, 0, 1, 1, 'p', 0), 4096}, "kid's tag": {join(1, 0, 0, 1, 1, 'p', 0, 1), 4096}, "kid's attrs": {join(1, 0, 0, 1, 1, 'p', 0, 1, 1, 'q'), 4096},
		"blocks": {join(1, 0, 0, 0), 8192}, "depth": {join(1, 0, 0, 0, 1), 64}, "ops": {join(1, 0, 0, 0, 1, 0), 8192},
		"A": {join(1, 0, 0, 0, 1, 0, 1, 7), 0}, "B": {join(1, 0, 0, 0, 1, 0, 1, 7, 0), 0}, "C": {join(1, 0, 0, 0, 1, 0, 1, 7, 0, 0), 0},
		"list": {join(1, 0, 0, 0, 1, 0, 1, 7, 0, 0, 0), 64}, "of list": {join(1, 0, 0, 0, 1, 0, 1, 7, 0, 0, 0, 2, 9), 0},
		"update": {join(1, 0, 0, 0, 1, 0, 0), 8192}, "of update": {join(1, 0, 0, 0, 1, 0, 0, 2, 9), 0}, "second block": {join(1, 0, 0, 0, 2, 5, 0, 0), 64},
	}
}

// TestP21_2Numbers: a number that is none, and one above its limit, is refused where it begins.
func TestP21_2Numbers(t *testing.T) {
	for name, slot := range slots() {
		at := len(slot.ahead)
		for _, bad := range badNumbers() {
			expectFault(t, join(slot.ahead, bad), at)
			expectFault(t, join(slot.ahead, bad, 0, 0, 0, 0, 0, 0), at)
		}
		for size := range 10 {
			expectFault(t, join(slot.ahead, bytes.Repeat([]byte{0x80}, size)), at)
			expectFault(t, join(slot.ahead, bytes.Repeat([]byte{0xff}, size)), at)
		}
		for _, x := range []uint64{1, 2, 127, 128, 1 << 31, 1 << 32, 1<<32 + 1, 1<<63 - 1, 1 << 63, 1<<64 - 1} {
			var s scribe
			s.number(int(slot.limit) + int(x))
			if slot.limit > 0 && x < 1<<63 {
				expectFault(t, join(slot.ahead, s.bytes), at)
				expectFault(t, join(slot.ahead, s.bytes, make([]byte, 20000)), at)
			}
			if got := expectJudged(t, join(slot.ahead, s.bytes, 0, 0, 0)); slot.limit == 0 && got == at {
				t.Errorf("%s: %d is refused", name, x)
			}
		}
		if slot.limit > 0 {
			var s scribe
			s.number(slot.limit)
			if got := expectJudged(t, join(slot.ahead, s.bytes)); got == at && !strings.Contains("text tag name value", name[strings.LastIndex(name, " ")+1:]) {
				t.Errorf("%s: %d is refused", name, slot.limit)
			}
		}
	}
}

// TestP21_2Texts: a text is refused at its length, whatever is wrong of it.
func TestP21_2Texts(t *testing.T) {
	for name, slot := range slots() {
		if !slices.Contains([]string{"text", "second text", "tag", "node's text", "name", "value", "kid's tag"}, name) {
			continue
		}
		for _, wrong := range wrongTexts() {
			var s scribe
			s.text(wrong)
			expectFault(t, join(slot.ahead, s.bytes), len(slot.ahead))
			expectFault(t, join(slot.ahead, s.bytes, make([]byte, 100)), len(slot.ahead))
			if len(s.bytes) > 2 {
				expectFault(t, join(slot.ahead, s.bytes[:len(s.bytes)-1]), len(slot.ahead))
			}
		}
	}
	// A character that goes on behind the text's end is cut.
	expectFault(t, join(1, 2, 1, 0xc3, 1, 0xa9, 0, 0, 0), 2)
}

// TestP21_2Nodes: a node that may not be by itself is refused where it begins.
func TestP21_2Nodes(t *testing.T) {
	for _, tree := range wrongTrees() {
		if tree.Tag == "" || tree.Text != "" || !lawfulText(tree.Tag) || slices.ContainsFunc(tree.Attrs, func(a api.Attr) bool { return !lawfulText(a.Name) || !lawfulText(a.Value) }) {
			continue
		}
		b := scribed(statics(tree)).bytes
		expectFault(t, b, 4)
		// It is asked ahead of the count of its kids, whatever that is.
		expectFault(t, b[:len(b)-2], 4)
		expectFault(t, join(b[:len(b)-2], 0xff, 0xff, 0xff, 0xff), 4)
		expectFault(t, join(b[:len(b)-2], 1, 1, 0xff), 4)
		// And behind its attributes: a fault in these counts first.
		if last := len(b) - 3; len(tree.Attrs) > 0 {
			expectJudged(t, b[:last])
			expectFault(t, b[:5+len(tree.Tag)], 5+len(tree.Tag))
		}
		b = scribed(statics(text("éé"), elem("p", text("abc"), elem("q", tree), elem("P")), elem("Q"))).bytes
		expectFault(t, b, 4+6+4+5+4)
	}
}

// TestP21_2First: where several things are wrong, the first one is told.
func TestP21_2First(t *testing.T) {
	for _, c := range []struct {
		b  []byte
		at int
	}{
		{join(2, 0xff, 0xff), 0},
		{join(1, 1, 1, 0xff, 0x80, 0x80), 2},
		{join(1, 2, 1, 0xff, 1, 0xff), 2},
		{join(1, 2, 5, "abcdé", 1, 0xff), 2},
		{join(1, 0x81, 0x80, 1, 1, 0xff), 1},
		{join(1, 0, 2, 1, 9, 0x80, 0, 0x80), 5},
		// A tag that is none, and behind it a count, a name, a value that are none.
		{join(1, 0, 0, 1, 1, 'P', 0x80, 0), 6},
		{join(1, 0, 0, 1, 1, 'P', 0x81, 0x20), 6},
		{join(1, 0, 0, 1, 1, 'P', 1, 1, 0xff, 0, 0, 0), 7},
		{join(1, 0, 0, 1, 1, 'P', 1, 1, 'a', 1, 0xff, 0, 0), 9},
		{join(1, 0, 0, 1, 1, 'P', 1, 1, 'a', 1), 9},
		{join(1, 0, 0, 1, 1, 'P', 1, 1, 'a', 0, 0x80, 0), 4},
		{join(1, 0, 0, 1, 1, 'P', 0, 1, 1, 'Q', 0, 0, 0), 4},
		{join(1, 0, 0, 1, 1, 'P'), 6},
		{join(1, 0, 0, 1, 1, 'P', 0), 4},
		// A name that is none, a name that does not rise, and an attribute behind that is cut.
		{join(1, 0, 0, 1, 1, 'p', 2, 1, 'A', 0, 1, 0xff, 0, 0, 0), 10},
		{join(1, 0, 0, 1, 1, 'p', 2, 1, 'A', 0), 10},
		{join(1, 0, 0, 1, 1, 'p', 3, 1, 'b', 0, 1, 'a', 0, 1, 'c', 1), 15},
		{join(1, 0, 0, 1, 1, 'p', 2, 1, 'b', 0, 1, 'b', 0), 4},
		{join(1, 0, 0, 1, 1, 'p', 2, 0, 0, 1, 'b', 0, 0, 0), 4},
		// The kid ahead, the kid's kid ahead of the next kid.
		{join(1, 0, 0, 1, 1, 'p', 0, 2, 1, 'Q', 0, 0, 1, 'R', 0, 0, 0), 8},
		{join(1, 0, 0, 1, 1, 'p', 0, 2, 1, 'q', 0, 1, 1, 'S', 0, 0, 1, 'R', 0, 0, 0), 12},
		{join(1, 0, 0, 1, 1, 'p', 0, 0x81, 0x20, 1, 'Q'), 7},
		{join(1, 0, 0, 2, 1, 'p', 0, 0, 1, 'Q', 0, 0, 0x80, 0), 8},
		// A block's fields in their row.
		{join(1, 0, 0, 0, 1, 65, 0x80, 0), 5},
		{join(1, 0, 0, 0, 1, 64, 0x80, 0, 0x80, 0), 6},
		{join(1, 0, 0, 0, 1, 0, 1, 9, 0, 0x80, 0, 0x80, 0), 9},
		{join(1, 0, 0, 0, 1, 0, 1, 9, 0, 0, 0, 65, 0x80, 0), 11},
		{join(1, 0, 0, 0, 1, 0, 1, 9, 0, 0, 0, 64, 0x80, 0), 12},
		{join(1, 0, 0, 0, 2, 0, 0, 1, 0x80, 0, 65), 8},
	} {
		expectFault(t, c.b, c.at)
		if got := verdict(c.b); got != c.at {
			t.Errorf("the second way has %d of %v, not %d", got, c.b, c.at)
		}
	}
}
