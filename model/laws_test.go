package model

import (
	"reflect"
	"slices"
	"testing"

	"stencil/api"
	"stencil/forest"
	"stencil/lis"
	"stencil/origin"
	"stencil/render"
)

// expectShown holds that the forest is Render's of a state, by itself: not by way of what a model must be.
func expectShown(t *testing.T, x *Model, cs []api.Core, v api.Value) {
	t.Helper()
	fs, code := render.Render(cs, v)
	if code != api.OK || !forest.Same(x.Forest(), fs) {
		t.Fatalf("%s: %s, want %s, %d", cut(v), cut(x.Forest()), cut(fs), code)
	}
	live := 0
	for _, cell := range x.Cells() {
		if cell.Live {
			live++
		}
	}
	if n := x.Counts(); live != forest.Count(fs)+1 || n.Created-n.Freed != live-1 {
		t.Fatalf("%s: %d are live, %+v", cut(v), live, n)
	}
}

// handles are those of the nodes under the root, in preorder: the row of a trace.
func handles(cells []api.Cell, node int) []int {
	var out []int
	for kid := cells[node].First; kid != -1; kid = cells[kid].Next {
		out = append(append(out, kid), handles(cells, kid)...)
	}
	return out
}

// expectLaws brings a model from one state to another one, and holds what P19.6, T4 and T6 say of that; both are states that fit.
func expectLaws(t *testing.T, cs []api.Core, a, b api.Value) api.Counts {
	t.Helper()
	x, code := New(cs, api.MaxNodes+1)
	if code != api.OK || x.Mount(a) != api.OK {
		t.Fatalf("%d: %s", code, cut(a))
	}
	expectShown(t, x, cs, a)
	before, olds := x.Counts(), handles(x.Cells(), 0)
	if x.Update(a) != api.OK || x.Counts() != before || !slices.Equal(handles(x.Cells(), 0), olds) {
		t.Fatalf("a state that is taken again changes something: %+v, %+v", before, x.Counts())
	}
	if code := x.Update(b); code != api.OK {
		t.Fatalf("%d: %s", code, cut(b))
	}
	expectShown(t, x, cs, b)
	news := handles(x.Cells(), 0)
	oldSpots, oldLoops, _ := origin.Trace(cs, a)
	newSpots, newLoops, _ := origin.Trace(cs, b)
	expectKept(t, oldSpots, olds, newSpots, news)
	after := x.Counts()
	if want := leastMoves(oldLoops, newLoops); after.Moved-before.Moved != want {
		t.Fatalf("%d were moved, want %d: %s, %s", after.Moved-before.Moved, want, cut(a), cut(b))
	}
	if x.Update(b) != api.OK || x.Counts() != after {
		t.Fatalf("a state that is taken again changes something: %+v, %+v", after, x.Counts())
	}
	if x.Unmount() != api.OK {
		t.Fatal("not unmounted")
	}
	expectBare(t, x, api.MaxNodes+1)
	return after
}

// expectKept holds that two nodes of one origin have one handle, and that texts and attributes are as the new rendering says.
func expectKept(t *testing.T, oldSpots []api.Spot, olds []int, newSpots []api.Spot, news []int) {
	t.Helper()
	at := map[api.Origin]int{}
	for i, spot := range oldSpots {
		at[spot.Origin] = olds[i]
	}
	for i, spot := range newSpots {
		if handle, kept := at[spot.Origin]; kept && handle != news[i] {
			t.Fatalf("%+v stood at %d, and stands at %d", spot.Origin, handle, news[i])
		}
	}
}

// leastMoves is k - L over the loops that stand in both.
func leastMoves(olds, news []api.Loop) int {
	sum := 0
	for _, old := range olds {
		for _, loop := range news {
			if loop.Origin == old.Origin {
				var places []int
				for _, key := range loop.Keys {
					if at := slices.Index(old.Keys, key); at >= 0 {
						places = append(places, at)
					}
				}
				sum += len(places) - len(lis.Longest(places))
			}
		}
	}
	return sum
}

// expectBare holds that the root alone is live, and that all else is free, each once.
func expectBare(t *testing.T, x *Model, room int) {
	t.Helper()
	for handle, cell := range x.Cells() {
		cell.Attrs = nil
		if handle == 0 && !reflect.DeepEqual(cell, api.Cell{Live: true, Parent: -1, First: -1, Last: -1, Prev: -1, Next: -1}) || handle > 0 && !reflect.DeepEqual(cell, api.Cell{}) {
			t.Fatalf("%d: %+v", handle, cell)
		}
	}
	free := x.Free()
	slices.Sort(free)
	for i, handle := range free {
		if handle != i+1 {
			t.Fatalf("%v are free", free)
		}
	}
	if n := x.Counts(); len(free) != room-1 || n.Created != n.Freed || len(x.Forest()) != 0 {
		t.Fatalf("%d are free, %+v", len(free), n)
	}
}

// TestP19_6Laws: random states of some templates, two by two.
func TestP19_6Laws(t *testing.T) {
	t.Parallel()
	m, all := newMaker(191), api.Counts{}
	for _, s := range pages() {
		cs := template(t, s)
		for range 25 {
			all = sum(all, expectLaws(t, cs, datum(t, m.record(2, 0)), datum(t, m.record(2, 0))))
		}
	}
	if min(all.Created, all.Placed, all.Moved, all.Removed, all.Freed, all.Attrs, all.Texts) < 100 {
		t.Errorf("%+v", all)
	}
}

// TestP19_6Again: a state that is taken again, of equal and of the same memory, many times; and one that tells more, of which nothing is shown.
func TestP19_6Again(t *testing.T) {
	for _, s := range pages() {
		w := newTwin(t, template(t, s), 200)
		m := newMaker(192)
		state := m.record(1, 0)
		v := datum(t, state)
		w.mount(t, v)
		before := pictureOf(w.x)
		for range 3 {
			if w.update(t, v) != api.OK || w.update(t, datum(t, state)) != api.OK || !reflect.DeepEqual(pictureOf(w.x), before) {
				t.Fatalf("%s: %s, want %s", s, cut(pictureOf(w.x)), cut(before))
			}
		}
		more := datum(t, `{"aa": 1, `+state[1:])
		if w.update(t, more) != api.OK || !reflect.DeepEqual(pictureOf(w.x), before) {
			t.Fatalf("%s: %s, want %s", s, cut(pictureOf(w.x)), cut(before))
		}
	}
}

// TestP19_6Static: what is static is never touched, whatever the states are.
func TestP19_6Static(t *testing.T) {
	still := `<p a="1">x<b c="2">y</b><i/></p>`
	w := newTwin(t, template(t, `{{ v }}`+still+`<for each="x" :in="l" :key="x.k"><q>`+still+`</q></for>`), 400)
	m := newMaker(193)
	w.mount(t, datum(t, m.record(1, 0)))
	for range 40 {
		before, cells := w.x.Counts(), w.x.Cells()
		w.update(t, datum(t, m.record(1, 0)))
		if n := w.x.Counts(); n.Attrs != 0 || n.Texts > before.Texts+1 {
			t.Fatalf("%+v, %+v", before, n)
		}
		after := w.x.Cells()
		for _, handle := range []int{2, 3, 4, 5, 6} {
			if cells[handle].Text != after[handle].Text || cells[handle].Tag != after[handle].Tag || cells[handle].Parent != after[handle].Parent {
				t.Fatalf("%d: %+v, %+v", handle, cells[handle], after[handle])
			}
		}
	}
}

// TestP19_6Mounted: mounted and unmounted many times, nothing is lost.
func TestP19_6Mounted(t *testing.T) {
	m := newMaker(194)
	for _, s := range pages() {
		w := newTwin(t, template(t, s), 120)
		for range 12 {
			if w.mount(t, datum(t, m.record(1, 0))) == api.OK {
				w.update(t, datum(t, m.record(1, 0)))
				w.unmount(t)
			}
			expectBare(t, w.x, 120)
		}
	}
}
