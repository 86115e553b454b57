package vm

import (
	"reflect"
	"slices"
	"testing"

	"stencil/api"
	"stencil/forest"
)

// expectFits holds that the links of an arena fit one another, that each handle is live or free once, and that the counts say how many are live.
func expectFits(t *testing.T, x *Vm) {
	t.Helper()
	cells, free, met := x.Cells(), x.Free(), map[int]int{}
	for _, handle := range free {
		if handle < 1 || handle >= len(cells) || cells[handle].Live || met[handle] > 0 {
			t.Fatalf("%d in the free list", handle)
		}
		met[handle]++
	}
	var visit func(node int)
	visit = func(node int) {
		if met[node]++; met[node] > 1 || !cells[node].Live {
			t.Fatalf("%d is met twice, or free", node)
		}
		ahead := -1
		for kid := cells[node].First; kid != -1; kid = cells[kid].Next {
			if kid < 1 || kid >= len(cells) || cells[kid].Parent != node || cells[kid].Prev != ahead {
				t.Fatalf("%d: %+v", kid, cells[kid])
			}
			visit(kid)
			ahead = kid
		}
		if cells[node].Last != ahead {
			t.Fatalf("%d: %+v", node, cells[node])
		}
	}
	visit(0)
	if n := x.Counts(); len(met) != len(cells) || n.Created-n.Freed != len(cells)-1-len(free) || forest.Check(x.Forest()) != api.OK || forest.Count(x.Forest()) != n.Created-n.Freed {
		t.Fatalf("%d are met, %+v", len(met), n)
	}
}

// expectBare holds that the root alone is live, and that all else is free.
func expectBare(t *testing.T, x *Vm) {
	t.Helper()
	expectFits(t, x)
	for handle, cell := range x.Cells() {
		cell.Attrs = nil
		if handle == 0 && !reflect.DeepEqual(cell, api.Cell{Live: true, Parent: -1, First: -1, Last: -1, Prev: -1, Next: -1}) || handle > 0 && !reflect.DeepEqual(cell, api.Cell{}) {
			t.Fatalf("%d: %+v", handle, cell)
		}
	}
}

// TestP23_7Laws: random programs that list all, with random states that fit, each behind each: what is shown is what a new machine shows of that state; a state that is taken again changes no count; behind Unmount all is let go, as often as it is mounted.
func TestP23_7Laws(t *testing.T) {
	t.Parallel()
	m, all := newMaker(234), api.Counts{}
	for i := range 200 {
		p := m.program(3 + i%4)
		if i%2 == 0 {
			p = listing(p, isFlagged)
		}
		x, _ := New(p, 600)
		for range 5 {
			for range 4 {
				v := datum(t, m.record(1+i%2, 0))
				fresh, _ := New(p, 600)
				want := fresh.Mount(v)
				code := x.Update(v)
				if code == api.ErrVmBare {
					code = x.Mount(v)
				}
				if code != want || code == api.OK && !forest.Same(x.Forest(), fresh.Forest()) {
					t.Fatalf("%s, %s: %d, want %d, %s, want %s", cut(p), cut(v), code, want, cut(x.Forest()), cut(fresh.Forest()))
				}
				before := pictureOf(x)
				if code == api.OK && (x.Update(v) != api.OK || x.Update(v) != api.OK) || !reflect.DeepEqual(pictureOf(x), before) {
					t.Fatalf("%s: %s, want %s", cut(v), cut(pictureOf(x)), cut(before))
				}
				expectFits(t, x)
			}
			if x.whole != nil && x.Unmount() != api.OK {
				t.Fatal("not unmounted")
			}
			expectBare(t, x)
		}
		all = sum(all, x.Counts())
	}
	if min(all.Created, all.Placed, all.Moved, all.Removed, all.Freed, all.Attrs, all.Texts) < 200 {
		t.Errorf("%+v", all)
	}
}

// TestP23_7Taken: a state that is taken again, of equal and of the same memory, and one that tells more, of which nothing is shown; behind others too.
func TestP23_7Taken(t *testing.T) {
	t.Parallel()
	for _, s := range pages() {
		for _, o := range ways() {
			w := newTwin(t, written(template(t, s), o), 400)
			m := newMaker(235)
			w.mount(t, datum(t, m.record(1, 0)))
			for range 3 {
				state := m.record(1, 0)
				v := datum(t, state)
				w.update(t, v)
				before := pictureOf(w.x)
				if w.update(t, v) != api.OK || w.update(t, datum(t, state)) != api.OK || w.update(t, datum(t, `{"aa": 1, `+state[1:])) != api.OK || !reflect.DeepEqual(pictureOf(w.x), before) {
					t.Fatalf("%s: %s, want %s", s, cut(pictureOf(w.x)), cut(before))
				}
			}
		}
	}
}

// TestP23_5Kept: what stands keeps its handle, its tag and its parent; what is static, its text and its attributes too.
func TestP23_5Kept(t *testing.T) {
	still := static(api.Tree{Tag: "s", Attrs: []api.Attr{{Name: "c", Value: "1"}}, Kids: []api.Tree{{Text: "y"}, {Tag: "i"}}})
	w := newTwin(t, programOf(show("p0.v"), still, text("x"), each("p0.l", "p1.k", elem("q", attr("a", "2"), still, text("z")))), 400)
	m := newMaker(236)
	w.mount(t, datum(t, m.record(1, 0)))
	for range 60 {
		before, cells := w.x.Counts(), w.x.Cells()
		w.update(t, datum(t, m.record(1, 0)))
		if n := w.x.Counts(); n.Attrs != 0 || n.Texts > before.Texts+1 {
			t.Fatalf("%+v, %+v", before, n)
		}
		after := w.x.Cells()
		for _, handle := range []int{1, 2, 3, 4, 5} {
			if cells[handle].Tag != after[handle].Tag || cells[handle].Parent != after[handle].Parent || handle > 1 && cells[handle].Text != after[handle].Text || !slices.Equal(cells[handle].Attrs, after[handle].Attrs) {
				t.Fatalf("%d: %+v, %+v", handle, cells[handle], after[handle])
			}
		}
	}
	if n := w.x.Counts(); n.Texts < 20 || n.Moved < 20 || n.Removed < 20 {
		t.Errorf("%+v", n)
	}
}
