package program

import (
	"bytes"
	"fmt"
	"slices"
	"strings"
	"testing"

	"stencil/api"
)

// attrsOf are so many attributes that rise.
func attrsOf(n int) []api.Attr {
	var out []api.Attr
	for i := range n {
		out = append(out, api.Attr{Name: fmt.Sprintf("a%05d", i)})
	}
	return out
}

// many is an element with so many kids.
func many(kids int) api.Tree { return elem("p", make([]api.Tree, kids)...) }

// deep is so many elements in one another, and what lies in the innermost one.
func deep(levels int, inner ...api.Tree) api.Tree {
	tree := elem("d", inner...)
	for range levels - 1 {
		tree = elem("d", tree)
	}
	return tree
}

// lists are programs with a list of n, by the limit that it has and the place where its count stands.
func lists(n int) []struct {
	p     api.Program
	limit int
	at    int
} {
	return []struct {
		p     api.Program
		limit int
		at    int
	}{
		{api.Program{Texts: make([]string, n)}, 16384, 1},
		{api.Program{Codes: make([][]api.Inst, n)}, 8192, 2},
		{insts(make([]api.Inst, n)...), 8192, 3},
		{api.Program{Codes: [][]api.Inst{{{Op: 1}}, make([]api.Inst, n)}}, 8192, 6},
		{statics(make([]api.Tree, n)...), 4096, 3},
		{statics(api.Tree{Tag: "p", Attrs: attrsOf(n)}), 4096, 6},
		{statics(text(""), elem("p", api.Tree{Tag: "q", Attrs: attrsOf(n)})), 4096, 12},
		{api.Program{Blocks: make([]api.Block, n)}, 8192, 4},
		{ops(make([]api.Op, n)...), 8192, 6},
		{ops(api.Op{List: make([]int, n)}), 64, 11},
		{ops(api.Op{}, api.Op{List: make([]int, n)}), 64, 16},
		{api.Program{Blocks: []api.Block{{Update: make([]int, n)}}}, 8192, 7},
		{api.Program{Blocks: []api.Block{{}, {Update: make([]int, n)}}}, 8192, 10},
	}
}

// TestP21Lists: each list of just its limit may be, of one more not, written or read.
func TestP21Lists(t *testing.T) {
	t.Parallel()
	for i, row := range lists(0) {
		expectScribed(t, row.p)
		expectScribed(t, lists(row.limit)[i].p)
		for _, n := range []int{row.limit + 1, row.limit + 2, 2 * row.limit} {
			over := lists(n)[i].p
			expectNoBytes(t, over, api.ErrProgramForm)
			expectFault(t, scribed(over).bytes, row.at)
		}
	}
}

// TestP21Nodes: a tree of just MaxNodes nodes may be; number MaxNodes + 1 is refused where it begins, in each tree anew.
func TestP21Nodes(t *testing.T) {
	t.Parallel()
	full := many(4095)
	expectScribed(t, statics(full))
	expectScribed(t, statics(full, full, text("x"), full))
	expectScribed(t, statics(elem("p", many(2000), many(2093))))
	for _, c := range []struct {
		tree api.Tree
		at   int
	}{
		{many(4096), 9 + 2*4095},
		{elem("p", many(2000), many(2094)), 8 + 5 + 2*2000 + 5 + 2*2093},
		{elem("p", many(4094), elem("Q")), 8 + 5 + 2*4094},
		{elem("p", many(4094), text("\xff")), 8 + 5 + 2*4094},
	} {
		expectNoBytes(t, statics(c.tree), api.ErrProgramForm)
		b := scribed(statics(c.tree)).bytes
		expectFault(t, b, c.at)
		// All else of it is asked behind that, and that it is there at all too.
		expectFault(t, b[:c.at], c.at)
		expectFault(t, join(b[:c.at], 0xff, 0xff), c.at)
		ahead := scribed(statics(full, full)).bytes
		both := join(ahead, b[4:])
		both[3] = 3
		both = slices.Delete(both, len(ahead)-1, len(ahead))
		expectFault(t, both, len(ahead)-1-4+c.at)
	}
	// A count of kids above the limit is refused ahead of the kids, one of just the limit not.
	expectFault(t, scribed(statics(many(4097))).bytes, 7)
	expectNoBytes(t, statics(many(4097)), api.ErrProgramForm)
	expectFault(t, join(1, 0, 0, 1, 1, 'p', 0, 0x80, 0x20), 9)
}

// TestP21Deep: a node may lie 2 MaxNest deep, and none deeper.
func TestP21Deep(t *testing.T) {
	t.Parallel()
	for _, tree := range []api.Tree{deep(64), deep(63, text("x")), deep(63, elem("e"), text("x"), elem("f")), elem("p", deep(63), deep(62, text("y")))} {
		expectScribed(t, statics(tree))
		expectScribed(t, statics(tree, tree))
	}
	for _, c := range []struct {
		tree api.Tree
		at   int
	}{
		{deep(65), 4 + 4*64},
		{deep(66), 4 + 4*64},
		{deep(200), 4 + 4*64},
		{deep(64, text("x")), 4 + 4*64},
		{deep(64, text("\xff")), 4 + 4*64},
		{deep(64, elem("Q")), 4 + 4*64},
		{deep(63, elem("e"), deep(2)), 4 + 4*63 + 4 + 4},
		{elem("p", deep(63), deep(64)), 4 + 4 + 4*63 + 4*63},
	} {
		expectNoBytes(t, statics(c.tree), api.ErrProgramForm)
		expectNoBytes(t, statics(elem("p"), c.tree), api.ErrProgramForm)
		b := scribed(statics(c.tree)).bytes
		expectFault(t, b, c.at)
		expectFault(t, b[:c.at], c.at)
	}
	// A node is asked by itself ahead of the depth of its kids.
	expectFault(t, scribed(statics(deep(63, elem("Q", elem("q"))))).bytes, 4+4*63)
}

// TestP21Long: texts of just MaxStr bytes may stand wherever a text may, one byte more not.
func TestP21Long(t *testing.T) {
	t.Parallel()
	for _, s := range []string{strings.Repeat("x", 4096), strings.Repeat("é", 2048), strings.Repeat("x", 4093) + "€"} {
		expectScribed(t, api.Program{Texts: []string{s, "", s}})
		expectScribed(t, statics(text(s), elem("p", text(s)), withAttrs("q", "a", s, "b", s)))
		expectNoBytes(t, api.Program{Texts: []string{s, s + "y"}}, api.ErrProgramForm)
		expectFault(t, scribed(api.Program{Texts: []string{s, s + "y"}}).bytes, 2+4098)
		for at, tree := range map[int]api.Tree{5: text(s + "y"), 9: elem("p", text(s+"y")), 4: elem(s + "y"), 7: withAttrs("p", s+"y", ""), 12: withAttrs("p", "a", "", "b", s+"y")} {
			expectNoBytes(t, statics(tree), api.ErrProgramForm)
			expectFault(t, scribed(statics(tree)).bytes, at)
		}
		// As tags and names texts of that length are read, but may not be.
		for _, tree := range []api.Tree{elem(s), withAttrs("p", s, "")} {
			expectNoBytes(t, statics(tree), api.ErrProgramForm)
			expectFault(t, scribed(statics(tree)).bytes, 4)
		}
	}
}

// filled is p with texts ahead of its own, so that it has so many bytes.
func filled(p api.Program, size int) api.Program {
	full := strings.Repeat("x", 4096)
	own := p.Texts
	p.Texts = slices.Concat(slices.Repeat([]string{full}, 254), []string{"", ""}, own)
	rest := size - len(scribed(p).bytes)
	// The two that are left have lengths of two bytes each, where the form had one of one byte each.
	half := (rest - 2) / 2
	p.Texts[254], p.Texts[255] = full[:half], full[:rest-2-half]
	return p
}

// TestP21Program: just MaxProgram bytes may be, one more not, whatever the last ones are.
func TestP21Program(t *testing.T) {
	t.Parallel()
	const most = 1 << 20
	for _, p := range []api.Program{
		{}, {Texts: []string{"last"}}, insts(api.Inst{Op: 9, A: -1 << 63}), statics(withAttrs("p", "a", "b")), statics(text("x")), ops(api.Op{Kind: 3, A: 1 << 62, List: []int{1 << 62}}),
		{Blocks: []api.Block{{Update: []int{-1 << 63, 7, 1 << 40}}}}, {Blocks: []api.Block{{Update: []int{-1 << 63}}, {Depth: 1}}},
	} {
		for size := most - 12; size <= most; size++ {
			p := filled(p, size)
			b := scribed(p).bytes
			if len(b) != size || !lawful(p) {
				t.Fatalf("%d bytes, not %d", len(b), size)
			}
			expectBoth(t, p, b)
		}
		for size := most + 1; size <= most+12; size++ {
			p := filled(p, size)
			b := scribed(p).bytes
			if len(b) != size || !lawful(p) {
				t.Fatalf("%d bytes, not %d", len(b), size)
			}
			expectNoBytes(t, p, api.ErrProgramLong)
			expectTooLong(t, b)
		}
	}
}

func expectTooLong(t *testing.T, b []byte) {
	t.Helper()
	if p, at, code := Decode(b); !alike(p, api.Program{}) || at != 0 || code != api.ErrProgramLong {
		t.Errorf("%d bytes: %s, %d, %d", len(b), shown(p), at, code)
	}
}

// TestP21_2TooLong: how many bytes there are is asked ahead of what they are.
func TestP21_2TooLong(t *testing.T) {
	t.Parallel()
	const most = 1 << 20
	for _, c := range []byte{0, 1, 2, 0x80, 0xff} {
		expectTooLong(t, bytes.Repeat([]byte{c}, most+1))
		expectTooLong(t, bytes.Repeat([]byte{c}, 4*most))
	}
	expectTooLong(t, join(1, 0, 0, 0, 0, make([]byte, most)))
	expectFault(t, make([]byte, most), 0)
	expectFault(t, join(1, 0, 0, 0, 0, make([]byte, most-5)), 5)
}

// TestP21_1FormAhead: what may not be counts ahead of too many bytes, wherever it stands.
func TestP21_1FormAhead(t *testing.T) {
	t.Parallel()
	wrong := []api.Program{
		{Texts: []string{"\xff"}}, {Texts: []string{strings.Repeat("x", 4097)}}, {Texts: make([]string, 16385)},
		{Codes: make([][]api.Inst, 8193)}, insts(make([]api.Inst, 8193)...), insts(api.Inst{Op: 1}, api.Inst{Op: 256}), insts(api.Inst{Op: -1}),
		statics(make([]api.Tree, 4097)...), statics(elem("P")), statics(elem("p", text("\xff"))), statics(many(4096)), statics(deep(65)), statics(api.Tree{Tag: "p", Attrs: attrsOf(4097)}), statics(elem("p", api.Tree{Tag: "p", Attrs: attrsOf(4097)})),
		{Blocks: make([]api.Block, 8193)}, {Blocks: []api.Block{{}, {Depth: 65}}}, {Blocks: []api.Block{{Depth: -1}}}, ops(api.Op{Kind: 256}), ops(api.Op{}, api.Op{Kind: -1}), ops(make([]api.Op, 8193)...), ops(api.Op{List: make([]int, 65)}), {Blocks: []api.Block{{}, {Update: make([]int, 8193)}}},
	}
	full := slices.Repeat([]string{strings.Repeat("x", 4096)}, 300)
	large := slices.Repeat([]api.Block{{Ops: slices.Repeat([]api.Op{{A: -1 << 63, B: -1 << 63, C: -1 << 63}}, 8000)}}, 6)
	for _, p := range wrong {
		expectNoBytes(t, p, api.ErrProgramForm)
		ahead, behind := p, p
		ahead.Blocks = slices.Concat(p.Blocks, large)
		behind.Texts = slices.Concat(full, p.Texts)
		expectNoBytes(t, ahead, api.ErrProgramForm)
		expectNoBytes(t, behind, api.ErrProgramForm)
	}
	expectNoBytes(t, api.Program{Texts: full}, api.ErrProgramLong)
	expectNoBytes(t, api.Program{Blocks: large}, api.ErrProgramLong)
}
