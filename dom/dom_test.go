package dom

import (
	"fmt"
	"math"
	"math/rand"
	"reflect"
	"slices"
	"strings"
	"sync"
	"testing"
	"time"

	"stencil/api"
)

func text(s string) api.Tree { return api.Tree{Text: s} }

func elem(tag string, kids ...api.Tree) api.Tree { return api.Tree{Tag: tag, Kids: kids} }

// with is tree with attributes: names and values by turns.
func with(tree api.Tree, pairs ...string) api.Tree {
	tree.Attrs = nil
	for i := 0; i < len(pairs); i += 2 {
		tree.Attrs = append(tree.Attrs, api.Attr{Name: pairs[i], Value: pairs[i+1]})
	}
	return tree
}

func list(fs ...api.Tree) []api.Tree { return fs }

func long(n int) string { return strings.Repeat("a", n) }

// nest is tree with shells elements around it.
func nest(shells int, tree api.Tree) api.Tree {
	for range shells {
		tree = elem("p", tree)
	}
	return tree
}

// wide is an element with n empty texts as kids.
func wide(n int) api.Tree { return elem("p", make([]api.Tree, n)...) }

// wrongTrees are trees that forest.Check refuses.
var wrongTrees = []api.Tree{
	elem("P"), elem("a_b"), elem(long(33)), elem("\xff"),
	{Tag: "p", Text: "x"}, {Text: "x", Kids: list(text("y"))}, with(text("x"), "a", "v"),
	text("\xff"), text("a\xc3"), text(long(4097)),
	with(elem("p"), "A", ""), with(elem("p"), "", ""), with(elem("p"), "a", "\xff"), with(elem("p"), "a", long(4097)),
	with(elem("p"), "b", "", "a", ""), with(elem("p"), "a", "", "a", ""),
	elem("p", elem("b", text("x")), elem("b", text("\xff"))), elem("p", text("x"), elem("I")),
	nest(64, text("x")), wide(4096),
}

func build(tree api.Tree) call { return call{name: "Build", tree: tree} }

func place(parent, node, before int) call { return call{name: "Place", a: parent, b: node, c: before} }

func move(node, before int) call { return call{name: "Move", a: node, b: before} }

func remove(node int) call { return call{name: "Remove", a: node} }

func setAttr(node int, name, value string) call {
	return call{name: "SetAttr", a: node, s: name, v: value}
}

func dropAttr(node int, name string) call { return call{name: "DropAttr", a: node, s: name} }

func setText(node int, s string) call { return call{name: "SetText", a: node, s: s} }

func kids(node int) call { return call{name: "Kids", a: node} }

// steps makes calls that are taken.
func (w twin) steps(t *testing.T, calls ...call) {
	t.Helper()
	for _, k := range calls {
		if got := w.do(t, k); got.code != api.OK {
			t.Fatalf("%v: %d", k, got.code)
		}
	}
}

// refused makes a call that is refused by code, with zeros beside it.
func (w twin) refused(t *testing.T, k call, code api.Errno) {
	t.Helper()
	got := w.do(t, k)
	if got.code != code || got.handle != 0 || got.kids != "" && got.kids != "[]" {
		t.Errorf("%v: %v, want %d", k, got, code)
	}
}

// kidsAre asks for the handles of node's kids.
func (w twin) kidsAre(t *testing.T, node int, want ...int) {
	t.Helper()
	if got, e := w.x.Kids(node); !slices.Equal(got, want) || e != api.OK {
		t.Errorf("Kids(%d): %v, %d, want %v", node, got, e, want)
	}
}

func (w twin) freeIs(t *testing.T, want ...int) {
	t.Helper()
	if got := w.x.Free(); !slices.Equal(got, want) {
		t.Errorf("Free: %v, want %v", got, want)
	}
}

func (w twin) forestIs(t *testing.T, want ...api.Tree) {
	t.Helper()
	if got := full(w.x.Forest()); !reflect.DeepEqual(got, full(want)) {
		t.Errorf("Forest: %v, want %v", got, want)
	}
}

func (w twin) countsAre(t *testing.T, want api.Counts) {
	t.Helper()
	if got := w.x.Counts(); got != want {
		t.Errorf("Counts: %+v, want %+v", got, want)
	}
}

func (w twin) builds(t *testing.T, tree api.Tree, want int) {
	t.Helper()
	if got := w.do(t, build(tree)); got.handle != want || got.code != api.OK {
		t.Errorf("Build: %v, want %d", got, want)
	}
}

func TestP8Rows(t *testing.T) {
	w := newTwin(t, 4)
	w.builds(t, elem("p", text("a"), text("b")), 1)
	w.freeIs(t)
	w.steps(t, place(0, 1, -1))
	w.refused(t, build(text("x")), api.ErrDomFull)
	w.steps(t, remove(2))
	w.freeIs(t, 2)
	w.builds(t, text("c"), 2)
	w.steps(t, place(1, 2, 3))
	w.forestIs(t, elem("p", text("c"), text("b")))
	w.steps(t, move(3, 2), remove(1))
	w.freeIs(t, 1, 3, 2)
	w.countsAre(t, api.Counts{Created: 4, Placed: 2, Moved: 1, Removed: 2, Freed: 4})
}

func TestP8_1Rooms(t *testing.T) {
	for _, room := range []int{0, -1, -2, api.MaxRoom + 1, 2 * api.MaxRoom, math.MaxInt, math.MinInt} {
		if x, e := New(room); x != nil || e != api.ErrDomRoom {
			t.Errorf("New(%d): %v, %d", room, x, e)
		}
	}
	for _, room := range []int{1, 2, 3, 10, api.MaxRoom - 1, api.MaxRoom} {
		w := newTwin(t, room)
		if now := pictureOf(w.x); !reflect.DeepEqual(now, w.m.picture()) {
			t.Errorf("New(%d): %.300v", room, now)
		}
		cells, free := w.x.Cells(), w.x.Free()
		if len(cells) != room || len(free) != room-1 || room > 1 && (free[0] != 1 || free[room-2] != room-1) {
			t.Errorf("New(%d): %d cells, %d free", room, len(cells), len(free))
		}
		if root := cells[0]; !reflect.DeepEqual(root, api.Cell{Live: true, Parent: -1, First: -1, Last: -1, Prev: -1, Next: -1, Attrs: root.Attrs}) || len(root.Attrs) != 0 {
			t.Errorf("New(%d): root %+v", room, root)
		}
		w.countsAre(t, api.Counts{})
		w.forestIs(t)
		w.kidsAre(t, 0)
	}
	w := newTwin(t, 1)
	w.freeIs(t)
	w.refused(t, build(text("")), api.ErrDomFull)
	w.refused(t, build(elem("P")), api.ErrDomTree)
}

func TestP8_2Ordinary(t *testing.T) {
	w := newTwin(t, 20)
	w.builds(t, text("x"), 1)
	w.builds(t, elem("p"), 2)
	w.builds(t, with(elem("p", text("a"), with(elem("b", text("c"), text("d")), "m", "1"), text("e")), "a", "", "z", "2"), 3)
	w.builds(t, api.Tree{Tag: "p", Attrs: []api.Attr{}, Kids: []api.Tree{}}, 9)
	w.builds(t, text(""), 10)
	w.kidsAre(t, 3, 4, 5, 8)
	w.kidsAre(t, 5, 6, 7)
	w.freeIs(t, 11, 12, 13, 14, 15, 16, 17, 18, 19)
	w.countsAre(t, api.Counts{Created: 10})
	w.forestIs(t)
	cells := w.x.Cells()
	for _, top := range []int{1, 2, 3, 9, 10} {
		if c := cells[top]; c.Parent != -1 || c.Prev != -1 || c.Next != -1 {
			t.Errorf("%d is not detached: %+v", top, c)
		}
	}
	want := api.Cell{Live: true, Tag: "b", Attrs: []api.Attr{{Name: "m", Value: "1"}}, Parent: 3, First: 6, Last: 7, Prev: 4, Next: 8}
	if !reflect.DeepEqual(cells[5], want) {
		t.Errorf("%+v, want %+v", cells[5], want)
	}
	w.steps(t, remove(5), remove(1))
	w.freeIs(t, 1, 5, 6, 7, 11, 12, 13, 14, 15, 16, 17, 18, 19)
	w.builds(t, elem("i", elem("b", text("x")), text("y"), text("z")), 1)
	w.kidsAre(t, 1, 5, 7, 11)
	w.kidsAre(t, 5, 6)
}

func TestP8_2Full(t *testing.T) {
	for room := 2; room < 9; room++ {
		w := newTwin(t, room)
		w.refused(t, build(wide(room-1)), api.ErrDomFull)
		w.builds(t, wide(room-2), 1)
		w.freeIs(t)
		w.refused(t, build(text("")), api.ErrDomFull)
		w.refused(t, build(text("\xff")), api.ErrDomTree)
		w.steps(t, remove(1))
		w.builds(t, text(""), 1)
		w.refused(t, build(wide(room-2)), api.ErrDomFull)
		if room > 2 {
			w.builds(t, wide(room-3), 2)
		}
		w.freeIs(t)
	}
	w := newTwin(t, api.MaxNodes)
	w.refused(t, build(wide(4095)), api.ErrDomFull)
	w.refused(t, build(wide(4096)), api.ErrDomTree)
	w.builds(t, wide(4094), 1)
	w = newTwin(t, api.MaxRoom)
	w.builds(t, wide(4095), 1)
	w.refused(t, build(wide(4095)), api.ErrDomFull)
	w.builds(t, wide(4094), 4097)
	w.freeIs(t)
}

func TestP8_2Wrong(t *testing.T) {
	for _, room := range []int{1, 2, 10, api.MaxRoom} {
		w := newTwin(t, room)
		for _, tree := range wrongTrees {
			w.refused(t, build(tree), api.ErrDomTree)
			w.refused(t, build(elem("p", text("x"), tree)), api.ErrDomTree)
		}
	}
	w := newTwin(t, 100)
	w.builds(t, nest(63, text("x")), 1)
	w.refused(t, build(nest(64, text("x"))), api.ErrDomTree)
	w.refused(t, build(nest(63, text("x"))), api.ErrDomFull)
	w.builds(t, text(long(4096)), 65)
	w.builds(t, with(elem(long(32)), long(32), strings.Repeat("é", 2048)), 66)
}

// garden has 1 p with 2 "a", 3 b with 4 "c" and 5 i, 6 "d" under the root; 7 u with 8 "e", and 9 "f", detached; 10 and 11 free.
func garden(t *testing.T) twin {
	t.Helper()
	w := newTwin(t, 12)
	w.builds(t, elem("p", text("a"), with(elem("b", text("c"), elem("i")), "k", "v", "m", "w"), text("d")), 1)
	w.builds(t, elem("u", text("e")), 7)
	w.builds(t, text("f"), 9)
	w.steps(t, place(0, 1, -1))
	return w
}

func TestP8_3Ordinary(t *testing.T) {
	for _, c := range []struct {
		parent, node, before int
		kids                 []int
	}{
		{0, 9, -1, []int{1, 9}}, {0, 9, 1, []int{9, 1}}, {0, 7, -1, []int{1, 7}}, {0, 7, 1, []int{7, 1}},
		{1, 9, -1, []int{2, 3, 6, 9}}, {1, 9, 2, []int{9, 2, 3, 6}}, {1, 9, 3, []int{2, 9, 3, 6}}, {1, 7, 6, []int{2, 3, 7, 6}},
		{5, 9, -1, []int{9}}, {5, 7, -1, []int{7}}, {3, 7, 5, []int{4, 7, 5}}, {7, 9, -1, []int{8, 9}}, {7, 9, 8, []int{9, 8}},
	} {
		w := garden(t)
		w.steps(t, place(c.parent, c.node, c.before))
		w.kidsAre(t, c.parent, c.kids...)
		w.countsAre(t, api.Counts{Created: 9, Placed: 2})
		if got := w.x.Cells()[c.node].Parent; got != c.parent {
			t.Errorf("%v: parent %d", c, got)
		}
	}
	w := garden(t)
	w.steps(t, place(7, 9, 8), place(3, 7, -1))
	w.forestIs(t, elem("p", text("a"), with(elem("b", text("c"), elem("i"), elem("u", text("f"), text("e"))), "k", "v", "m", "w"), text("d")))
}

func TestP8_3Wrong(t *testing.T) {
	w := garden(t)
	for _, h := range []int{-1, -2, 10, 11, 12, 13, math.MaxInt, math.MinInt} {
		w.refused(t, place(h, 9, -1), api.ErrDomNode)
		w.refused(t, place(0, h, -1), api.ErrDomNode)
		if h != -1 {
			w.refused(t, place(0, 9, h), api.ErrDomNode)
			w.refused(t, place(h, h, h), api.ErrDomNode)
		}
	}
	for _, c := range []struct {
		parent, node, before int
		code                 api.Errno
	}{
		{2, 9, -1, api.ErrDomKind}, {9, 7, -1, api.ErrDomKind}, {8, 9, -1, api.ErrDomKind},
		{0, 0, -1, api.ErrDomRoot}, {1, 0, -1, api.ErrDomRoot}, {7, 0, -1, api.ErrDomRoot}, {5, 0, -1, api.ErrDomRoot},
		{0, 1, -1, api.ErrDomPlaced}, {0, 2, -1, api.ErrDomPlaced}, {7, 8, -1, api.ErrDomPlaced}, {7, 3, -1, api.ErrDomPlaced}, {1, 2, 3, api.ErrDomPlaced},
		{7, 7, -1, api.ErrDomCycle},
		{0, 9, 2, api.ErrDomBefore}, {0, 9, 0, api.ErrDomBefore}, {0, 9, 9, api.ErrDomBefore}, {0, 9, 7, api.ErrDomBefore}, {1, 9, 1, api.ErrDomBefore}, {1, 9, 4, api.ErrDomBefore}, {1, 9, 8, api.ErrDomBefore}, {5, 9, 6, api.ErrDomBefore}, {7, 9, 7, api.ErrDomBefore}, {1, 7, 8, api.ErrDomBefore},
	} {
		w.refused(t, place(c.parent, c.node, c.before), c.code)
	}
	w.countsAre(t, api.Counts{Created: 9, Placed: 1})
	w = newTwin(t, 9)
	w.builds(t, elem("p", elem("b", elem("i"), elem("u", text("x"))), elem("s")), 1)
	for _, parent := range []int{1, 2, 3, 4, 6} {
		w.refused(t, place(parent, 1, -1), api.ErrDomCycle)
		w.refused(t, place(parent, 1, 0), api.ErrDomCycle)
	}
	w.refused(t, place(5, 1, -1), api.ErrDomKind)
}

// TestP8_3Order has several faults in one call: the one that the document names first is told.
func TestP8_3Order(t *testing.T) {
	w := garden(t)
	for _, c := range []struct {
		parent, node, before int
		code                 api.Errno
	}{
		{2, 10, -1, api.ErrDomNode}, {2, 0, 10, api.ErrDomNode}, {0, 0, 10, api.ErrDomNode}, {0, 2, 10, api.ErrDomNode}, {7, 7, 10, api.ErrDomNode}, {10, 0, -1, api.ErrDomNode}, {10, 2, 4, api.ErrDomNode},
		{2, 0, -1, api.ErrDomKind}, {2, 3, -1, api.ErrDomKind}, {9, 9, -1, api.ErrDomKind}, {2, 9, 3, api.ErrDomKind}, {2, 2, 2, api.ErrDomKind}, {8, 7, -1, api.ErrDomKind}, {2, 0, 0, api.ErrDomKind},
		{0, 0, 0, api.ErrDomRoot}, {0, 0, 2, api.ErrDomRoot}, {3, 0, 7, api.ErrDomRoot},
		{1, 1, -1, api.ErrDomPlaced}, {3, 1, -1, api.ErrDomPlaced}, {3, 3, 3, api.ErrDomPlaced}, {0, 2, 4, api.ErrDomPlaced}, {5, 3, 7, api.ErrDomPlaced},
		{7, 7, 2, api.ErrDomCycle}, {7, 7, 7, api.ErrDomCycle}, {7, 7, 0, api.ErrDomCycle}, {7, 7, 8, api.ErrDomCycle},
	} {
		w.refused(t, place(c.parent, c.node, c.before), c.code)
	}
}

func TestP8_4Ordinary(t *testing.T) {
	for _, c := range []struct {
		node, before int
		kids         []int
	}{
		{2, -1, []int{3, 4, 5, 2}}, {3, -1, []int{2, 4, 5, 3}}, {4, -1, []int{2, 3, 5, 4}}, {5, -1, []int{2, 3, 4, 5}},
		{2, 2, []int{2, 3, 4, 5}}, {3, 3, []int{2, 3, 4, 5}}, {5, 5, []int{2, 3, 4, 5}},
		{2, 3, []int{2, 3, 4, 5}}, {2, 4, []int{3, 2, 4, 5}}, {2, 5, []int{3, 4, 2, 5}},
		{3, 2, []int{3, 2, 4, 5}}, {3, 4, []int{2, 3, 4, 5}}, {3, 5, []int{2, 4, 3, 5}},
		{4, 2, []int{4, 2, 3, 5}}, {4, 3, []int{2, 4, 3, 5}}, {4, 5, []int{2, 3, 4, 5}},
		{5, 2, []int{5, 2, 3, 4}}, {5, 3, []int{2, 5, 3, 4}}, {5, 4, []int{2, 3, 5, 4}},
	} {
		for _, placed := range []bool{true, false} {
			w := newTwin(t, 6)
			w.builds(t, wide(4), 1)
			want := api.Counts{Created: 5, Moved: 1}
			if placed {
				w.steps(t, place(0, 1, -1))
				want.Placed = 1
			}
			w.steps(t, move(c.node, c.before))
			w.kidsAre(t, 1, c.kids...)
			w.countsAre(t, want)
		}
	}
	w := garden(t)
	w.steps(t, move(1, 1), move(1, -1), move(3, 2), move(8, -1), move(8, 8))
	w.kidsAre(t, 1, 3, 2, 6)
	w.kidsAre(t, 3, 4, 5)
	w.countsAre(t, api.Counts{Created: 9, Placed: 1, Moved: 5})
}

func TestP8_4Wrong(t *testing.T) {
	w := garden(t)
	for _, h := range []int{-1, -2, 10, 11, 12, math.MaxInt, math.MinInt} {
		w.refused(t, move(h, -1), api.ErrDomNode)
		w.refused(t, move(h, 2), api.ErrDomNode)
		if h != -1 {
			w.refused(t, move(2, h), api.ErrDomNode)
			w.refused(t, move(0, h), api.ErrDomNode)
			w.refused(t, move(7, h), api.ErrDomNode)
			w.refused(t, move(h, h), api.ErrDomNode)
		}
	}
	for _, c := range []struct {
		node, before int
		code         api.Errno
	}{
		{0, -1, api.ErrDomRoot}, {0, 0, api.ErrDomRoot}, {0, 1, api.ErrDomRoot}, {0, 7, api.ErrDomRoot},
		{7, -1, api.ErrDomPlaced}, {9, -1, api.ErrDomPlaced}, {7, 7, api.ErrDomPlaced}, {7, 8, api.ErrDomPlaced}, {7, 9, api.ErrDomPlaced}, {9, 0, api.ErrDomPlaced}, {9, 2, api.ErrDomPlaced},
		{2, 0, api.ErrDomBefore}, {2, 1, api.ErrDomBefore}, {2, 4, api.ErrDomBefore}, {2, 8, api.ErrDomBefore}, {2, 9, api.ErrDomBefore}, {1, 0, api.ErrDomBefore}, {1, 2, api.ErrDomBefore}, {1, 7, api.ErrDomBefore}, {3, 4, api.ErrDomBefore}, {4, 3, api.ErrDomBefore}, {8, 7, api.ErrDomBefore},
	} {
		w.refused(t, move(c.node, c.before), c.code)
	}
	w.countsAre(t, api.Counts{Created: 9, Placed: 1})
}

func TestP8_5Ordinary(t *testing.T) {
	for _, c := range []struct {
		node, freed int
		free        []int
	}{
		{1, 6, []int{1, 2, 3, 4, 5, 6, 10, 11}}, {2, 1, []int{2, 10, 11}}, {3, 3, []int{3, 4, 5, 10, 11}}, {4, 1, []int{4, 10, 11}}, {5, 1, []int{5, 10, 11}}, {6, 1, []int{6, 10, 11}},
		{7, 2, []int{7, 8, 10, 11}}, {8, 1, []int{8, 10, 11}}, {9, 1, []int{9, 10, 11}},
	} {
		w := garden(t)
		w.steps(t, remove(c.node))
		w.freeIs(t, c.free...)
		w.countsAre(t, api.Counts{Created: 9, Placed: 1, Removed: 1, Freed: c.freed})
		for _, h := range c.free {
			if cell := w.x.Cells()[h]; !reflect.DeepEqual(cell, api.Cell{Attrs: cell.Attrs}) || len(cell.Attrs) != 0 {
				t.Errorf("Remove(%d): %d: %+v", c.node, h, cell)
			}
			w.refused(t, remove(h), api.ErrDomNode)
			w.refused(t, kids(h), api.ErrDomNode)
		}
		w.builds(t, elem("p", text("x")), c.free[0])
		w.kidsAre(t, c.free[0], c.free[1])
	}
	w := garden(t)
	w.steps(t, remove(3))
	w.kidsAre(t, 1, 2, 6)
	w.steps(t, remove(6))
	w.kidsAre(t, 1, 2)
	w.steps(t, remove(2))
	w.kidsAre(t, 1)
	w.freeIs(t, 2, 6, 3, 4, 5, 10, 11)
	w.steps(t, remove(1), remove(7), remove(9))
	w.freeIs(t, 9, 7, 8, 1, 2, 6, 3, 4, 5, 10, 11)
	w.countsAre(t, api.Counts{Created: 9, Placed: 1, Removed: 6, Freed: 9})
}

// TestP8_5Preorder removes what was placed and moved: the handles stand as the kids do, not by their numbers.
func TestP8_5Preorder(t *testing.T) {
	w := garden(t)
	w.steps(t, place(3, 7, 4), place(7, 9, 8), move(6, 3), move(5, 4), remove(1))
	w.freeIs(t, 1, 2, 6, 3, 7, 9, 8, 5, 4, 10, 11)
	w.builds(t, elem("p", text("x"), text("y"), elem("b", elem("i"))), 1)
	w.kidsAre(t, 1, 2, 6, 3)
	w.kidsAre(t, 3, 7)
	w.freeIs(t, 9, 8, 5, 4, 10, 11)
}

func TestP8_5Wrong(t *testing.T) {
	w := garden(t)
	for _, h := range []int{-1, -2, 10, 11, 12, math.MaxInt, math.MinInt} {
		w.refused(t, remove(h), api.ErrDomNode)
	}
	w.refused(t, remove(0), api.ErrDomRoot)
	w.steps(t, remove(9))
	w.refused(t, remove(9), api.ErrDomNode)
	w.refused(t, remove(0), api.ErrDomRoot)
}

func TestP8_6Attrs(t *testing.T) {
	w := garden(t)
	for _, c := range []struct{ name, value, row string }{
		{"k", "1", "k=1 m=w"}, {"m", "2", "k=1 m=2"}, {"l", "3", "k=1 l=3 m=2"}, {"a", "4", "a=4 k=1 l=3 m=2"}, {"z", "5", "a=4 k=1 l=3 m=2 z=5"},
		{"a", "6", "a=6 k=1 l=3 m=2 z=5"}, {"z", "", "a=6 k=1 l=3 m=2 z="}, {"l", "", "a=6 k=1 l= m=2 z="}, {"l", "", "a=6 k=1 l= m=2 z="}, {"a-", "7", "a=6 a-=7 k=1 l= m=2 z="}, {"a0", "8", "a=6 a-=7 a0=8 k=1 l= m=2 z="},
	} {
		w.steps(t, setAttr(3, c.name, c.value))
		if got := row(w.x.Cells()[3].Attrs); got != c.row {
			t.Errorf("SetAttr of %s: %s, want %s", c.name, got, c.row)
		}
	}
	w.countsAre(t, api.Counts{Created: 9, Placed: 1, Attrs: 11})
	for _, c := range []struct{ name, row string }{
		{"a", "a-=7 a0=8 k=1 l= m=2 z="}, {"z", "a-=7 a0=8 k=1 l= m=2"}, {"k", "a-=7 a0=8 l= m=2"}, {"a-", "a0=8 l= m=2"}, {"m", "a0=8 l="}, {"l", "a0=8"}, {"a0", ""},
	} {
		w.steps(t, dropAttr(3, c.name))
		if got := row(w.x.Cells()[3].Attrs); got != c.row {
			t.Errorf("DropAttr of %s: %s, want %s", c.name, got, c.row)
		}
		w.refused(t, dropAttr(3, c.name), api.ErrDomAttr)
	}
	w.countsAre(t, api.Counts{Created: 9, Placed: 1, Attrs: 18})
	w.steps(t, setAttr(3, "q", "1"), setAttr(5, long(32), strings.Repeat("é", 2048)), setAttr(7, "a", long(4096)), setAttr(7, "b", "\x00<\"{"))
	w.forestIs(t, elem("p", text("a"), with(elem("b", text("c"), with(elem("i"), long(32), strings.Repeat("é", 2048))), "q", "1"), text("d")))
	w.steps(t, dropAttr(7, "a"), dropAttr(5, long(32)))
}

func row(attrs []api.Attr) string {
	parts := []string{}
	for _, attr := range attrs {
		parts = append(parts, attr.Name+"="+attr.Value)
	}
	return strings.Join(parts, " ")
}

func TestP8_6Texts(t *testing.T) {
	w := garden(t)
	w.steps(t, setText(2, "x"), setText(4, ""), setText(9, "y"), setText(6, strings.Repeat("é", 2048)), setText(8, long(4096)), setText(2, "x"), setText(2, "z\x00"))
	w.countsAre(t, api.Counts{Created: 9, Placed: 1, Texts: 7})
	w.steps(t, place(0, 9, 1))
	w.forestIs(t, text("y"), elem("p", text("z\x00"), with(elem("b", text(""), elem("i")), "k", "v", "m", "w"), text(strings.Repeat("é", 2048))))
}

func TestP8_6Wrong(t *testing.T) {
	w := garden(t)
	for _, h := range []int{-1, -2, 10, 11, 12, math.MaxInt, math.MinInt} {
		w.refused(t, setAttr(h, "a", "v"), api.ErrDomNode)
		w.refused(t, setAttr(h, "A", "\xff"), api.ErrDomNode)
		w.refused(t, dropAttr(h, "a"), api.ErrDomNode)
		w.refused(t, dropAttr(h, "A"), api.ErrDomNode)
		w.refused(t, setText(h, ""), api.ErrDomNode)
		w.refused(t, setText(h, "\xff"), api.ErrDomNode)
	}
	for _, h := range []int{0, 2, 9} {
		w.refused(t, setAttr(h, "a", "v"), api.ErrDomKind)
		w.refused(t, setAttr(h, "A", "v"), api.ErrDomKind)
		w.refused(t, setAttr(h, "a", "\xff"), api.ErrDomKind)
		w.refused(t, dropAttr(h, "a"), api.ErrDomKind)
		w.refused(t, dropAttr(h, "A"), api.ErrDomKind)
	}
	for _, h := range []int{0, 1, 3, 5, 7} {
		w.refused(t, setText(h, ""), api.ErrDomKind)
		w.refused(t, setText(h, "\xff"), api.ErrDomKind)
	}
	for _, s := range []string{"\xff", "é\xc3", "\xed\xa0\x80", long(4097), strings.Repeat("é", 2048) + "a", long(4095) + "\xc3"} {
		w.refused(t, setText(2, s), api.ErrDomAttr)
		w.refused(t, setText(9, s), api.ErrDomAttr)
		w.refused(t, setAttr(3, "k", s), api.ErrDomAttr)
		w.refused(t, setAttr(3, "a", s), api.ErrDomAttr)
		w.refused(t, setAttr(3, s, s), api.ErrDomAttr)
	}
	for _, name := range []string{"", "A", "kK", "1", "-a", "a_b", "a b", "é", "\xff", "a=", long(33), "k\x00", "k "} {
		w.refused(t, setAttr(3, name, "v"), api.ErrDomAttr)
		w.refused(t, setAttr(5, name, ""), api.ErrDomAttr)
		w.refused(t, dropAttr(3, name), api.ErrDomAttr)
		w.refused(t, dropAttr(5, name), api.ErrDomAttr)
	}
	for _, name := range []string{"a", "j", "l", "n", "z", "k-", "mm"} {
		w.refused(t, dropAttr(3, name), api.ErrDomAttr)
		w.refused(t, dropAttr(5, name), api.ErrDomAttr)
	}
	w.countsAre(t, api.Counts{Created: 9, Placed: 1})
}

func TestP8_7Kids(t *testing.T) {
	w := garden(t)
	for node, want := range map[int][]int{0: {1}, 1: {2, 3, 6}, 2: nil, 3: {4, 5}, 4: nil, 5: nil, 6: nil, 7: {8}, 8: nil, 9: nil} {
		w.kidsAre(t, node, want...)
	}
	for _, h := range []int{-1, -2, 10, 11, 12, math.MaxInt, math.MinInt} {
		w.refused(t, kids(h), api.ErrDomNode)
	}
}

func TestP8_7Cells(t *testing.T) {
	w := garden(t)
	want := []api.Cell{
		{Live: true, Parent: -1, First: 1, Last: 1, Prev: -1, Next: -1},
		{Live: true, Tag: "p", Parent: 0, First: 2, Last: 6, Prev: -1, Next: -1},
		{Live: true, Text: "a", Parent: 1, First: -1, Last: -1, Prev: -1, Next: 3},
		{Live: true, Tag: "b", Attrs: []api.Attr{{Name: "k", Value: "v"}, {Name: "m", Value: "w"}}, Parent: 1, First: 4, Last: 5, Prev: 2, Next: 6},
		{Live: true, Text: "c", Parent: 3, First: -1, Last: -1, Prev: -1, Next: 5},
		{Live: true, Tag: "i", Parent: 3, First: -1, Last: -1, Prev: 4, Next: -1},
		{Live: true, Text: "d", Parent: 1, First: -1, Last: -1, Prev: 3, Next: -1},
		{Live: true, Tag: "u", Parent: -1, First: 8, Last: 8, Prev: -1, Next: -1},
		{Live: true, Text: "e", Parent: 7, First: -1, Last: -1, Prev: -1, Next: -1},
		{Live: true, Text: "f", Parent: -1, First: -1, Last: -1, Prev: -1, Next: -1},
		{}, {},
	}
	got := w.x.Cells()
	for h := range want {
		got[h].Attrs, want[h].Attrs = append([]api.Attr{}, got[h].Attrs...), append([]api.Attr{}, want[h].Attrs...)
	}
	if !reflect.DeepEqual(got, want) {
		t.Errorf("Cells: %+v", got)
	}
	w.freeIs(t, 10, 11)
	w.forestIs(t, elem("p", text("a"), with(elem("b", text("c"), elem("i")), "k", "v", "m", "w"), text("d")))
	w.countsAre(t, api.Counts{Created: 9, Placed: 1})
}

// TestP8_8Random makes many calls, right and wrong, and holds each answer and all that the arena tells against a second arena.
func TestP8_8Random(t *testing.T) {
	met := map[string]int{}
	for seed := range 120 {
		g := maker{rand.New(rand.NewSource(int64(seed)))}
		w := newTwin(t, 1+g.r.Intn(24))
		for range 120 {
			k := g.call(w.m)
			met[fmt.Sprintf("%s%d", k.name, w.do(t, k).code)]++
		}
	}
	for _, name := range []string{
		"Build0", "Build801", "Build802", "Place0", "Place803", "Place804", "Place805", "Place806", "Place807", "Place808",
		"Move0", "Move803", "Move805", "Move806", "Move808", "Remove0", "Remove803", "Remove808",
		"SetAttr0", "SetAttr803", "SetAttr804", "SetAttr809", "DropAttr0", "DropAttr803", "DropAttr804", "DropAttr809",
		"SetText0", "SetText803", "SetText804", "SetText809", "Kids0", "Kids803",
	} {
		if met[name] < 5 {
			t.Errorf("%s was met %d times", name, met[name])
		}
	}
}

// TestP8_8Forest builds, places and takes all away again.
func TestP8_8Forest(t *testing.T) {
	g := maker{rand.New(rand.NewSource(9))}
	w := newTwin(t, 200)
	var fs []api.Tree
	for range 40 {
		tree := g.tree(3)
		got := w.do(t, build(tree))
		if got.code != api.OK {
			continue
		}
		w.steps(t, place(0, got.handle, -1))
		fs = append(fs, tree)
	}
	w.forestIs(t, fs...)
	top, _ := w.x.Kids(0)
	for _, i := range g.r.Perm(len(top)) {
		w.steps(t, remove(top[i]))
	}
	w.forestIs(t)
	if free := w.x.Free(); len(free) != 199 {
		t.Errorf("%d are free", len(free))
	}
}

func TestR3Nil(t *testing.T) {
	var x *Dom
	for _, k := range []call{build(text("x")), build(elem("P")), place(0, 1, -1), place(-1, -1, -1), move(1, -1), remove(1), remove(0), setAttr(1, "a", ""), setAttr(1, "A", ""), dropAttr(1, "a"), setText(1, ""), setText(-5, "\xff"), kids(0), kids(-1)} {
		if got := k.run(x); got.code != api.ErrNil || got.handle != 0 || got.kids != "" && got.kids != "[]" {
			t.Errorf("%v of nil: %v", k, got)
		}
	}
	if len(x.Cells()) != 0 || len(x.Free()) != 0 || len(x.Forest()) != 0 || x.Counts() != (api.Counts{}) {
		t.Error("nil tells something")
	}
}

// TestR1Bare calls the methods of an arena that New did not make: it has no room.
func TestR1Bare(t *testing.T) {
	x := new(Dom)
	for _, k := range []call{place(0, 0, -1), move(0, 0), remove(0), setAttr(0, "a", ""), dropAttr(0, "a"), setText(0, ""), kids(0)} {
		if got := k.run(x); got.code != api.ErrDomNode {
			t.Errorf("%v: %v", k, got)
		}
	}
	if got := build(text("x")).run(x); got.code != api.ErrDomFull {
		t.Errorf("Build: %v", got)
	}
	if len(x.Cells()) != 0 || len(x.Free()) != 0 || len(x.Forest()) != 0 || x.Counts() != (api.Counts{}) {
		t.Error("a bare arena tells something")
	}
}

// roomy is tree in memory of its own, with spare room behind each list that holds marks.
func roomy(tree api.Tree) api.Tree {
	attrs := append(make([]api.Attr, 0, len(tree.Attrs)+3), tree.Attrs...)
	trees := make([]api.Tree, 0, len(tree.Kids)+3)
	for _, kid := range tree.Kids {
		trees = append(trees, roomy(kid))
	}
	for i := range 3 {
		attrs[:cap(attrs)][len(attrs)+i] = api.Attr{Name: "mark", Value: "mark"}
		trees[:cap(trees)][len(trees)+i] = with(elem("mark", text("mark")), "mark", "mark")
	}
	tree.Attrs, tree.Kids = attrs, trees
	return tree
}

// opened is fs with the spare room of each of its lists as part of it.
func opened(fs []api.Tree) []api.Tree {
	trees := []api.Tree{}
	for _, tree := range fs[:cap(fs)] {
		tree.Attrs = append([]api.Attr{}, tree.Attrs[:cap(tree.Attrs)]...)
		tree.Kids = opened(tree.Kids)
		trees = append(trees, tree)
	}
	return trees
}

func spoilAttrs(attrs []api.Attr) {
	for i := range attrs[:cap(attrs)] {
		attrs[:cap(attrs)][i] = api.Attr{Name: "spoilt", Value: "spoilt"}
	}
}

// spoil overwrites all that the lists of fs hold, their spare room too.
func spoil(fs []api.Tree) {
	for i, tree := range fs[:cap(fs)] {
		spoil(tree.Kids)
		spoilAttrs(tree.Attrs)
		fs[:cap(fs)][i] = text("spoilt")
	}
}

func spoilNumbers(list []int) {
	for i := range list[:cap(list)] {
		list[:cap(list)][i] = -77
	}
}

func spoilCells(cells []api.Cell) {
	for i, c := range cells[:cap(cells)] {
		spoilAttrs(c.Attrs)
		cells[:cap(cells)][i] = api.Cell{Live: true, Text: "spoilt", Parent: 77}
	}
}

func TestR4ArgumentsStay(t *testing.T) {
	g := maker{rand.New(rand.NewSource(5))}
	w := newTwin(t, 60)
	for range 300 {
		tree := roomy(g.tree(3))
		before := opened(list(tree))
		got := w.do(t, build(tree))
		if !reflect.DeepEqual(opened(list(tree)), before) {
			t.Fatal("Build changed its tree")
		}
		kept := pictureOf(w.x)
		spoil(list(tree))
		if !reflect.DeepEqual(pictureOf(w.x), kept) {
			t.Fatal("the arena shares memory with a tree that it was given")
		}
		if got.code != api.OK {
			continue
		}
		tree = roomy(g.tree(2))
		before = opened(list(tree))
		w.do(t, build(tree))
		top := w.x.Cells()[got.handle]
		if top.Tag != "" {
			w.steps(t, setAttr(got.handle, "b", "new"), setAttr(got.handle, "zz", "new"), dropAttr(got.handle, "zz"))
		}
		if !reflect.DeepEqual(opened(list(tree)), before) {
			t.Fatal("a later call changed a tree")
		}
		w.steps(t, remove(got.handle))
	}
}

// TestR4AnswersApart overwrites each answer, its spare room too: neither the arena nor another answer changes.
func TestR4AnswersApart(t *testing.T) {
	w := garden(t)
	w.steps(t, setAttr(7, "a", "1"), setAttr(7, "b", "2"), dropAttr(7, "b"), setAttr(1, "x", "1"), setAttr(1, "y", "1"), dropAttr(1, "x"), dropAttr(1, "y"), remove(6), place(0, 7, -1))
	kept := pictureOf(w.x)
	same := func(what string) {
		t.Helper()
		if !reflect.DeepEqual(pictureOf(w.x), kept) {
			t.Fatalf("%s shares memory with the arena", what)
		}
	}
	cells, free, fs := w.x.Cells(), w.x.Free(), w.x.Forest()
	row, _ := w.x.Kids(1)
	otherCells, otherFree, otherForest := w.x.Cells(), w.x.Free(), w.x.Forest()
	otherRow, _ := w.x.Kids(1)
	spoilCells(cells)
	same("Cells")
	spoilNumbers(free)
	same("Free")
	spoil(fs)
	same("Forest")
	spoilNumbers(row)
	same("Kids")
	again := picture{cells: otherCells, free: append([]int{}, otherFree...), counts: w.x.Counts(), forest: full(otherForest)}
	for h := range again.cells {
		again.cells[h].Attrs = append([]api.Attr{}, again.cells[h].Attrs...)
	}
	if !reflect.DeepEqual(again, kept) || !slices.Equal(otherRow, []int{2, 3}) {
		t.Error("two answers share memory")
	}
}

// TestR4ListsApart spoils one list of an answer after the other: the others stay.
func TestR4ListsApart(t *testing.T) {
	w := newTwin(t, 20)
	w.steps(t, build(with(elem("p", with(elem("b"), "a", "1"), with(elem("i", text("x")), "a", "2", "b", "3")), "c", "4")), place(0, 1, -1))
	w.steps(t, setAttr(1, "d", "5"), setAttr(2, "b", "6"), dropAttr(3, "a"))
	cells := w.x.Cells()
	rows := [][]api.Attr{cells[1].Attrs, cells[2].Attrs, cells[3].Attrs}
	fs := w.x.Forest()
	rows = append(rows, fs[0].Attrs, fs[0].Kids[0].Attrs, fs[0].Kids[1].Attrs)
	for i := range rows {
		spoilAttrs(rows[i])
		for j := i + 1; j < len(rows); j++ {
			if row(rows[j]) == "" || strings.Contains(row(rows[j]), "spoilt") {
				t.Errorf("rows %d and %d share memory", i, j)
			}
		}
	}
	spoil(fs[0].Kids[0].Kids)
	fs[0].Kids[0].Kids = append(fs[0].Kids[0].Kids, text("y"))
	if fs[0].Kids[1].Tag != "i" || fs[0].Kids[1].Kids[0].Text != "x" {
		t.Error("lists of kids share memory")
	}
}

// TestR4Kept keeps answers while the arena changes: they stay as they were told.
func TestR4Kept(t *testing.T) {
	w := garden(t)
	kept, cells, free, fs := pictureOf(w.x), w.x.Cells(), w.x.Free(), w.x.Forest()
	row, _ := w.x.Kids(1)
	w.steps(t, setAttr(3, "k", "new"), setAttr(3, "l", "new"), dropAttr(3, "m"), setText(2, "new"), place(1, 9, 2), move(6, 2), remove(3), build(text("q")), remove(1))
	for h := range cells {
		cells[h].Attrs = append([]api.Attr{}, cells[h].Attrs...)
	}
	told := picture{cells: cells, free: append([]int{}, free...), counts: kept.counts, forest: full(fs)}
	if !reflect.DeepEqual(told, kept) || !slices.Equal(row, []int{2, 3, 6}) {
		t.Error("an answer changed behind a later call")
	}
}

// TestR5Twice makes the same calls of two arenas, one of which was asked and refused much between.
func TestR5Twice(t *testing.T) {
	for seed := range 40 {
		g := maker{rand.New(rand.NewSource(int64(seed)))}
		a, b := newTwin(t, 16), newTwin(t, 16)
		for range 60 {
			k := g.call(a.m)
			a.do(t, k)
			if k.asked(b.m).code != api.OK {
				continue
			}
			if got := k.run(b.x); got.code != api.OK {
				t.Fatalf("%v: %v", k, got)
			}
		}
		if !reflect.DeepEqual(pictureOf(a.x), pictureOf(b.x)) {
			t.Fatal("refused calls are to be told")
		}
	}
}

func TestR1Deep(t *testing.T) {
	w := newTwin(t, api.MaxRoom)
	w.refused(t, build(nest(4095, text("x"))), api.ErrDomTree)
	w.refused(t, build(nest(4095, elem("P"))), api.ErrDomTree)
	tree := text("x")
	for range 4095 {
		tree = api.Tree{Kids: list(tree)}
	}
	w.refused(t, build(tree), api.ErrDomTree)
}

// TestR1Chain places nodes into one another as deep as there is room, from the deepest pair on and from the topmost one on.
func TestR1Chain(t *testing.T) {
	const last = api.MaxRoom - 1
	for _, fromTop := range []bool{false, true} {
		start := time.Now()
		x, _ := New(api.MaxRoom)
		for h := 1; h <= last; h++ {
			if got, e := x.Build(elem("p")); got != h || e != api.OK {
				t.Fatal(got, e)
			}
		}
		for i := 2; i <= last; i++ {
			h := last + 2 - i
			if fromTop {
				h = i
			}
			if e := x.Place(h-1, h, -1); e != api.OK {
				t.Fatal(e)
			}
		}
		expectChain(t, x, last)
		if spent := time.Since(start); spent > 20*time.Second {
			t.Errorf("it took %v", spent)
		}
	}
}

// expectChain has 1 to last lie in one another, and lets all but 1 go.
func expectChain(t *testing.T, x *Dom, last int) {
	t.Helper()
	if e := x.Place(last, 1, -1); e != api.ErrDomCycle {
		t.Errorf("the deepest as a parent: %d", e)
	}
	if e := x.Place(0, 1, -1); e != api.OK {
		t.Fatal(e)
	}
	if fs := x.Forest(); len(fs) != 1 || depthOf(fs[0]) != last {
		t.Error("the chain is another")
	}
	if e := x.Remove(2); e != api.OK {
		t.Fatal(e)
	}
	free := x.Free()
	for i, h := range free {
		if h != i+2 {
			t.Fatalf("%d is free at place %d", h, i)
		}
	}
	if len(free) != last-1 {
		t.Errorf("%d are free", len(free))
	}
}

// TestR1Size asks for times that a cost of the square of the size would break by far.
func TestR1Size(t *testing.T) {
	start := time.Now()
	x, _ := New(api.MaxRoom)
	for round := range 200 {
		top, e := x.Build(wide(4095))
		if e != api.OK || x.Place(0, top, -1) != api.OK {
			t.Fatal(round, e)
		}
		row, _ := x.Kids(top)
		for i := len(row) - 1; i >= 0; i-- {
			x.Move(row[i], -1)
		}
		for _, h := range row[1:] {
			x.Move(h, row[0])
		}
		if now, _ := x.Kids(top); now[4094] != row[0] || now[0] != row[1] || len(now) != 4095 {
			t.Fatal("the row is another")
		}
		if x.Remove(top) != api.OK || len(x.Free()) != api.MaxRoom-1 {
			t.Fatal("not all is free")
		}
	}
	top, _ := x.Build(elem("p"))
	for i := range 20000 {
		if e := x.SetAttr(top, fmt.Sprintf("a%d", i*7919%20000), "v"); e != api.OK {
			t.Fatal(e)
		}
	}
	if n := len(x.Cells()[top].Attrs); n != 20000 {
		t.Errorf("%d attributes", n)
	}
	x.SetAttr(top, strings.Repeat("é", 1<<25), strings.Repeat("é", 1<<25))
	x.DropAttr(top, strings.Repeat("é", 1<<25))
	if spent := time.Since(start); spent > 20*time.Second {
		t.Errorf("it took %v", spent)
	}
}

// TestR5Goroutines has arenas of their own in several goroutines.
func TestR5Goroutines(t *testing.T) {
	tree := with(elem("p", text("x"), with(elem("b"), "a", "1")), "k", "v")
	var group sync.WaitGroup
	for range 8 {
		group.Go(func() {
			for range 100 {
				x, _ := New(8)
				top, e := x.Build(tree)
				if top != 1 || e != api.OK || x.Place(0, 1, -1) != api.OK || x.SetAttr(3, "a", "2") != api.OK || x.Move(3, 2) != api.OK {
					t.Error("an answer changed")
				}
				if got := full(x.Forest()); !reflect.DeepEqual(got, full(list(with(elem("p", with(elem("b"), "a", "2"), text("x")), "k", "v")))) {
					t.Errorf("Forest: %v", got)
				}
			}
		})
	}
	group.Wait()
}
