package model

import (
	"fmt"
	"math"
	"reflect"
	"slices"
	"strings"
	"testing"

	"stencil/api"
	"stencil/check"
	"stencil/data"
	"stencil/syntax"
)

func template(t *testing.T, s string) []api.Core {
	t.Helper()
	nodes, at, code := syntax.Parse(s)
	if code == api.OK {
		var cs []api.Core
		if cs, at, code = check.Check(nodes); code == api.OK {
			return cs
		}
	}
	t.Fatalf("%s: %d at %d", s, code, at)
	return nil
}

func datum(t *testing.T, s string) api.Value {
	t.Helper()
	v, at, code := data.Parse([]byte(s))
	if code != api.OK {
		t.Fatalf("%.200s: %d at %d", s, code, at)
	}
	return v
}

// told is what the root of an arena holds: each node as its handle and its text, or its tag with its attributes and then its kids.
func told(cells []api.Cell) string {
	var out []string
	for node := cells[0].First; node != -1; node = cells[node].Next {
		out = append(out, toldNode(cells, node))
	}
	return strings.Join(out, " ")
}

func toldNode(cells []api.Cell, node int) string {
	c := cells[node]
	if c.Tag == "" {
		return fmt.Sprintf("%d'%s'", node, c.Text)
	}
	words := []string{c.Tag}
	for _, attr := range c.Attrs {
		words = append(words, attr.Name+"="+attr.Value)
	}
	var kids []string
	for kid := c.First; kid != -1; kid = cells[kid].Next {
		kids = append(kids, toldNode(cells, kid))
	}
	return fmt.Sprintf("%d<%s>(%s)", node, strings.Join(words, " "), strings.Join(kids, " "))
}

// grown is by how much the counts have grown; what has not is left out.
func grown(from, to api.Counts) string {
	var out []string
	a, b := reflect.ValueOf(from), reflect.ValueOf(to)
	for i := range a.NumField() {
		if n := b.Field(i).Int() - a.Field(i).Int(); n != 0 {
			out = append(out, fmt.Sprintf("%s %d", strings.ToLower(a.Type().Field(i).Name), n))
		}
	}
	return strings.Join(out, " ")
}

// step is a call and what it comes to: a state is mounted, if nothing is, and else updated; none unmounts.
type step struct {
	state  string
	code   api.Errno
	shown  string
	free   []int
	counts string
}

// expectSteps makes the calls one behind the other, of a model and of what it must be.
func expectSteps(t *testing.T, s string, room int, steps ...step) {
	t.Helper()
	w := newTwin(t, template(t, s), room)
	for i, one := range steps {
		before, code := w.x.Counts(), api.OK
		switch {
		case one.state == "":
			code = w.unmount(t)
		case w.m.mounted:
			code = w.update(t, datum(t, one.state))
		default:
			code = w.mount(t, datum(t, one.state))
		}
		shown, free, counts := told(w.x.Cells()), w.x.Free(), grown(before, w.x.Counts())
		if code != one.code || shown != one.shown || !slices.Equal(free, one.free) || counts != one.counts {
			t.Errorf("%s, step %d: %d, %s, free %v, %s\nwant %d, %s, free %v, %s", s, i, code, shown, free, counts, one.code, one.shown, one.free, one.counts)
		}
	}
}

func TestP19_1New(t *testing.T) {
	for _, room := range []int{1, 2, 3, 10, api.MaxRoom - 1, api.MaxRoom} {
		for _, s := range []string{``, `x`, `<p a="1">x<b/></p>`, rowed} {
			x, code := New(template(t, s), room)
			if code != api.OK || x == nil {
				t.Fatalf("room %d: %d", room, code)
			}
			cells, free := x.Cells(), x.Free()
			if len(cells) != room || len(free) != room-1 || x.Counts() != (api.Counts{}) || len(x.Forest()) != 0 {
				t.Errorf("room %d: %d cells, %d free, %v", room, len(cells), len(free), x.Counts())
			}
			for i, handle := range free {
				if handle != i+1 || cells[handle].Live {
					t.Fatalf("room %d: %d at place %d of the free list", room, handle, i)
				}
			}
			cells[0].Attrs = nil
			if !reflect.DeepEqual(cells[0], api.Cell{Live: true, Parent: -1, First: -1, Last: -1, Prev: -1, Next: -1}) {
				t.Errorf("room %d: root %+v", room, cells[0])
			}
			if x.Update(datum(t, `{}`)) != api.ErrModelBare || x.Unmount() != api.ErrModelBare {
				t.Errorf("room %d: it is not bare", room)
			}
		}
	}
}

func TestP19_1Wrong(t *testing.T) {
	wrong := wrongCores()
	for _, room := range []int{0, -1, -2, api.MaxRoom + 1, 2 * api.MaxRoom, math.MaxInt, math.MinInt} {
		for _, s := range []string{``, `x`, rowed} {
			if x, code := New(template(t, s), room); x != nil || code != api.ErrModelRoom {
				t.Errorf("room %d: %d", room, code)
			}
		}
		for want, cs := range wrong {
			if x, code := New(cs, room); x != nil || code != want {
				t.Errorf("room %d: %d, want %d", room, code, want)
			}
		}
	}
	for want, cs := range wrong {
		for _, room := range []int{1, 9, api.MaxRoom} {
			if x, code := New(cs, room); x != nil || code != want {
				t.Errorf("room %d: %d, want %d", room, code, want)
			}
			if x, code := New(slices.Concat(template(t, rowed), cs), room); x != nil || code != want {
				t.Errorf("room %d: %d, want %d", room, code, want)
			}
		}
	}
}

// rowed is a list of which each element has a text, attributes and something that comes and goes.
const rowed = `<ul><for each="x" :in="l" :key="x.k"><li :a="x.v" b="1">{{ x.v }}</li></for></ul>`

// plain is a list of keys, with something ahead and behind.
const plain = `a<for each="x" :in="l" :key="x"><b>{{ x }}</b></for><i/>`

func TestP19_2Mount(t *testing.T) {
	expectSteps(t, ``, 1, step{state: `{}`}, step{state: `7`}, step{})
	expectSteps(t, ``, 3, step{state: `null`, free: []int{1, 2}}, step{free: []int{1, 2}})
	expectSteps(t, `x`, 2, step{state: `{}`, shown: `1'x'`, counts: "created 1 placed 1"})
	expectSteps(t, `<p a="1" :b="v" :c="w">x<b/>{{ v }}</p>y`, 8,
		step{state: `{"v": 7, "w": false}`, shown: `1<p a=1 b=7>(2'x' 3<b>() 4'7') 5'y'`, free: []int{6, 7}, counts: "created 5 placed 2"})
	expectSteps(t, plain, 9,
		step{state: `{"l": [5, "c"]}`, shown: `1'a' 2<b>(3'5') 4<b>(5'c') 6<i>()`, free: []int{7, 8}, counts: "created 6 placed 4"})
	expectSteps(t, `<p><if :test="b">x<i><u/></i></if><else>y</else></p>`, 6,
		step{state: `{"b": true}`, shown: `1<p>(2'x' 3<i>(4<u>()))`, free: []int{5}, counts: "created 4 placed 1"})
	expectSteps(t, `<for each="x" :in="l" :key="x[0]"><p><for each="y" :in="x" :key="y"><q>{{ y }}</q></for></p></for>`, 10,
		step{state: `{"l": [[1, 2], [3]]}`, shown: `1<p>(2<q>(3'1') 4<q>(5'2')) 6<p>(7<q>(8'3'))`, free: []int{9}, counts: "created 8 placed 2"})
	expectSteps(t, `<def name="d-a" props="r"><u>{{ r }}<slot/></u></def><d-a :r="v"><b/></d-a><d-a r="2">{{ v }}</d-a>`, 7,
		step{state: `{"v": "z"}`, shown: `1<u>(2'z' 3<b>()) 4<u>(5'2' 6'z')`, counts: "created 6 placed 2"})
}

// TestP19_3Moves: elements come, go and are moved; what stays has the handle that it had.
func TestP19_3Moves(t *testing.T) {
	first := step{state: `{"l": [1, 2, 3, 4]}`, shown: `1'a' 2<b>(3'1') 4<b>(5'2') 6<b>(7'3') 8<b>(9'4') 10<i>()`, free: []int{11}, counts: "created 10 placed 6"}
	for _, one := range []step{
		{state: `{"l": [1, 2, 3, 4]}`, shown: first.shown, free: []int{11}},
		{state: `{"l": [4, 1, 2, 3]}`, shown: `1'a' 8<b>(9'4') 2<b>(3'1') 4<b>(5'2') 6<b>(7'3') 10<i>()`, free: []int{11}, counts: "moved 1"},
		{state: `{"l": [2, 3, 4, 1]}`, shown: `1'a' 4<b>(5'2') 6<b>(7'3') 8<b>(9'4') 2<b>(3'1') 10<i>()`, free: []int{11}, counts: "moved 1"},
		{state: `{"l": [4, 3, 2, 1]}`, shown: `1'a' 8<b>(9'4') 6<b>(7'3') 4<b>(5'2') 2<b>(3'1') 10<i>()`, free: []int{11}, counts: "moved 3"},
		{state: `{"l": [2, 1, 4, 3]}`, shown: `1'a' 4<b>(5'2') 2<b>(3'1') 8<b>(9'4') 6<b>(7'3') 10<i>()`, free: []int{11}, counts: "moved 2"},
		{state: `{"l": [1, 3, 4]}`, shown: `1'a' 2<b>(3'1') 6<b>(7'3') 8<b>(9'4') 10<i>()`, free: []int{4, 5, 11}, counts: "removed 1 freed 2"},
		{state: `{"l": []}`, shown: `1'a' 10<i>()`, free: []int{8, 9, 6, 7, 4, 5, 2, 3, 11}, counts: "removed 4 freed 8"},
		{state: `{"l": [2, 7, 3]}`, shown: `1'a' 4<b>(5'2') 8<b>(9'7') 6<b>(7'3') 10<i>()`, free: []int{2, 3, 11}, counts: "created 2 placed 1 removed 2 freed 4"},
		{state: `{"l": [7, 3, 2, 8]}`, shown: `1'a' 8<b>(9'7') 6<b>(7'3') 4<b>(5'2') 2<b>(3'8') 10<i>()`, free: []int{11}, counts: "created 4 placed 2 moved 1 removed 2 freed 4"},
		{state: `{"l": ["1", "2", "3", "4"]}`, shown: `1'a' 8<b>(9'1') 6<b>(7'2') 4<b>(5'3') 2<b>(3'4') 10<i>()`, free: []int{11}, counts: "created 8 placed 4 removed 4 freed 8"},
	} {
		expectSteps(t, plain, 12, first, one)
	}
}

// TestP19_3Set: texts and attributes alone are others.
func TestP19_3Set(t *testing.T) {
	s := `<p :a="u" :b="v" c="1">{{ u }}<b>{{ v }}</b></p>`
	first := step{state: `{"u": 1, "v": "x"}`, shown: `1<p a=1 b=x c=1>(2'1' 3<b>(4'x'))`, counts: "created 4 placed 1"}
	for _, one := range []step{
		{state: `{"u": 1, "v": "x", "w": 5}`, shown: first.shown},
		{state: `{"u": "1", "v": "x"}`, shown: first.shown},
		{state: `{"u": 2, "v": "x"}`, shown: `1<p a=2 b=x c=1>(2'2' 3<b>(4'x'))`, counts: "attrs 1 texts 1"},
		{state: `{"u": 1, "v": ""}`, shown: `1<p a=1 b= c=1>(2'1' 3<b>(4''))`, counts: "attrs 1 texts 1"},
		{state: `{"u": null, "v": "x"}`, shown: `1<p b=x c=1>(2'' 3<b>(4'x'))`, counts: "attrs 1 texts 1"},
		{state: `{"u": false, "v": true}`, shown: `1<p b= c=1>(2'false' 3<b>(4'true'))`, counts: "attrs 2 texts 2"},
		{state: `{"u": true, "v": null}`, shown: `1<p a= c=1>(2'true' 3<b>(4''))`, counts: "attrs 2 texts 2"},
	} {
		expectSteps(t, s, 5, first, one)
		// And back again: what was dropped is set, what was set is dropped.
		again, back := first, one
		again.counts, back.counts = one.counts, first.counts
		expectSteps(t, s, 5, back, again)
	}
}

// TestP19_3Ifs: what an if shows comes and goes, in its place.
func TestP19_3Ifs(t *testing.T) {
	s := `<p>x<if :test="b"><i><u/></i>y</if><else><b/></else>z</p><if :test="c">w</if>`
	expectSteps(t, s, 8,
		step{state: `{"b": true, "c": false}`, shown: `1<p>(2'x' 3<i>(4<u>()) 5'y' 6'z')`, free: []int{7}, counts: "created 6 placed 1"},
		step{state: `{"b": false, "c": false}`, shown: `1<p>(2'x' 5<b>() 6'z')`, free: []int{3, 4, 7}, counts: "created 1 placed 1 removed 2 freed 3"},
		step{state: `{"b": false, "c": true}`, shown: `1<p>(2'x' 5<b>() 6'z') 3'w'`, free: []int{4, 7}, counts: "created 1 placed 1"},
		step{state: `{"b": true, "c": true}`, shown: `1<p>(2'x' 5<i>(4<u>()) 7'y' 6'z') 3'w'`, counts: "created 3 placed 2 removed 1 freed 1"},
		step{state: `{"b": true, "c": false}`, shown: `1<p>(2'x' 5<i>(4<u>()) 7'y' 6'z')`, free: []int{3}, counts: "removed 1 freed 1"},
		step{free: []int{1, 2, 5, 4, 7, 6, 3}, counts: "removed 1 freed 6"})
}

// TestP19_3Loops: loops in one another; an element that is moved takes with it what it holds, and is changed below too.
func TestP19_3Loops(t *testing.T) {
	s := `<for each="x" :in="l" :key="x.k"><p :a="x.v"><for each="y" :in="x.l" :key="y"><q/></for>{{ x.v }}</p></for>`
	expectSteps(t, s, 12,
		step{state: `{"l": [{"k": 1, "v": "a", "l": [1, 2, 3]}, {"k": 2, "v": "b", "l": [1]}]}`, shown: `1<p a=a>(2<q>() 3<q>() 4<q>() 5'a') 6<p a=b>(7<q>() 8'b')`, free: []int{9, 10, 11}, counts: "created 8 placed 2"},
		step{state: `{"l": [{"k": 2, "v": "b", "l": [1]}, {"k": 1, "v": "c", "l": [3, 1, 2]}]}`, shown: `6<p a=b>(7<q>() 8'b') 1<p a=c>(4<q>() 2<q>() 3<q>() 5'c')`, free: []int{9, 10, 11}, counts: "moved 2 attrs 1 texts 1"},
		step{state: `{"l": [{"k": 3, "v": "d", "l": [1]}, {"k": 1, "v": "c", "l": [4, 2, 3]}, {"k": 2, "v": "b", "l": []}]}`, shown: `2<p a=d>(7<q>() 9'd') 1<p a=c>(10<q>() 3<q>() 4<q>() 5'c') 6<p a=b>(8'b')`, free: []int{11}, counts: "created 4 placed 2 moved 2 removed 2 freed 2"},
		step{state: `{"l": []}`, free: []int{6, 8, 1, 10, 3, 4, 5, 2, 7, 9, 11}, counts: "removed 3 freed 10"})
}

// TestP19_3Full: just as many nodes as there is room for, and one more; what goes is let go first, so the old and the new nodes need not fit together.
func TestP19_3Full(t *testing.T) {
	one, other := `1'a' 2<b>(3'1') 4<i>()`, `1'a' 2<b>(3'2') 4<i>()`
	expectSteps(t, plain, 5,
		step{state: `{"l": [1, 2]}`, code: api.ErrModelFull, free: []int{1, 2, 3, 4}},
		step{state: `{"l": [1]}`, shown: one, counts: "created 4 placed 3"},
		step{state: `{"l": [1, 2]}`, code: api.ErrModelFull, shown: one},
		step{state: `{"l": [2]}`, shown: other, counts: "created 2 placed 1 removed 1 freed 2"},
		step{state: `{"l": [2, 3]}`, code: api.ErrModelFull, shown: other},
		step{state: `{"l": []}`, shown: `1'a' 4<i>()`, free: []int{2, 3}, counts: "removed 1 freed 2"})
	expectSteps(t, `x`, 1, step{state: `{}`, code: api.ErrModelFull}, step{code: api.ErrModelBare})
	expectSteps(t, `x`, 2, step{state: `{}`, shown: `1'x'`, counts: "created 1 placed 1"})
	expectSteps(t, `x<b/>`, 2, step{state: `{}`, code: api.ErrModelFull, free: []int{1}})
	expectSteps(t, `<p>x</p>`, 2, step{state: `{}`, code: api.ErrModelFull, free: []int{1}})
	// Nothing that was there stays.
	expectSteps(t, `<if :test="b"><p>x<i/></p></if><else><u>y</u>z</else>`, 4,
		step{state: `{"b": true}`, shown: `1<p>(2'x' 3<i>())`, counts: "created 3 placed 1"},
		step{state: `{"b": false}`, shown: `1<u>(2'y') 3'z'`, counts: "created 3 placed 2 removed 1 freed 3"},
		step{state: `{"b": true}`, shown: `3<p>(1'x' 2<i>())`, counts: "created 3 placed 1 removed 2 freed 3"})
}

// numbered is a state with a list l of so many numbers, rising, and an empty one m.
func numbered(from, count int) api.Value {
	list := api.Value{Kind: api.KList}
	for i := range count {
		list.List = append(list.List, api.Value{Kind: api.KInt, Int: from + i})
	}
	return api.Value{Kind: api.KRec, Names: []string{"l", "m"}, List: []api.Value{list, {Kind: api.KList}}}
}

// TestP19_3Largest: as many nodes as a forest may have, in arenas that they fill, overfill, and do not fill.
func TestP19_3Largest(t *testing.T) {
	cs := template(t, `<for each="x" :in="l" :key="x"><b/></for>`)
	for _, c := range []struct {
		room int
		code api.Errno
	}{{api.MaxNodes - 1, api.ErrModelFull}, {api.MaxNodes, api.ErrModelFull}, {api.MaxNodes + 1, api.OK}, {api.MaxRoom, api.OK}} {
		x, _ := New(cs, c.room)
		if code := x.Mount(numbered(0, api.MaxNodes+1)); code != api.ErrRenderLarge {
			t.Errorf("room %d: %d", c.room, code)
		}
		if code := x.Mount(numbered(0, api.MaxNodes)); code != c.code {
			t.Fatalf("room %d: %d", c.room, code)
		}
		if c.code != api.OK {
			if x.Counts() != (api.Counts{}) || len(x.Free()) != c.room-1 || x.Mount(numbered(0, c.room-1)) != api.OK || len(x.Free()) != 0 {
				t.Errorf("room %d: %+v", c.room, x.Counts())
			}
			continue
		}
		if code := x.Update(numbered(-7, api.MaxNodes+1)); code != api.ErrRenderLarge {
			t.Errorf("room %d: %d", c.room, code)
		}
		if code := x.Update(numbered(api.MaxNodes, api.MaxNodes)); code != api.OK || len(x.Forest()) != api.MaxNodes || len(x.Free()) != c.room-1-api.MaxNodes {
			t.Errorf("room %d: %d, %d free", c.room, code, len(x.Free()))
		}
		if n := x.Counts(); n != (api.Counts{Created: 2 * api.MaxNodes, Placed: 2 * api.MaxNodes, Removed: api.MaxNodes, Freed: api.MaxNodes}) {
			t.Errorf("room %d: %+v", c.room, n)
		}
		// The last one that went is the first one that is taken.
		if cells := x.Cells(); cells[0].First != api.MaxNodes || cells[0].Last != 1 {
			t.Errorf("room %d: %d, %d", c.room, cells[0].First, cells[0].Last)
		}
	}
}

func TestP19_4Unmount(t *testing.T) {
	expectSteps(t, plain, 9,
		step{code: api.ErrModelBare, free: []int{1, 2, 3, 4, 5, 6, 7, 8}},
		step{state: `{"l": [1, 2]}`, shown: `1'a' 2<b>(3'1') 4<b>(5'2') 6<i>()`, free: []int{7, 8}, counts: "created 6 placed 4"},
		step{free: []int{6, 4, 5, 2, 3, 1, 7, 8}, counts: "removed 4 freed 6"},
		step{code: api.ErrModelBare, free: []int{6, 4, 5, 2, 3, 1, 7, 8}},
		step{state: `{"l": [2]}`, shown: `6'a' 4<b>(5'2') 2<i>()`, free: []int{3, 1, 7, 8}, counts: "created 4 placed 3"},
		step{state: `{"l": [1, 2]}`, shown: `6'a' 3<b>(1'1') 4<b>(5'2') 2<i>()`, free: []int{7, 8}, counts: "created 2 placed 1"},
		step{free: []int{2, 4, 5, 3, 1, 6, 7, 8}, counts: "removed 4 freed 6"})
	// The kids of the root go in the row in which they stand, not in that in which they came.
	expectSteps(t, `<for each="x" :in="l" :key="x"><b/></for>`, 6,
		step{state: `{"l": [1, 2, 3]}`, shown: `1<b>() 2<b>() 3<b>()`, free: []int{4, 5}, counts: "created 3 placed 3"},
		step{state: `{"l": [2, 3, 1]}`, shown: `2<b>() 3<b>() 1<b>()`, free: []int{4, 5}, counts: "moved 1"},
		step{free: []int{1, 3, 2, 4, 5}, counts: "removed 3 freed 3"})
	// A model that shows nothing is mounted too.
	expectSteps(t, `<if :test="b">x</if>`, 3,
		step{state: `{"b": false}`, free: []int{1, 2}},
		step{state: `{"b": true}`, shown: `1'x'`, free: []int{2}, counts: "created 1 placed 1"},
		step{state: `{"b": false}`, free: []int{1, 2}, counts: "removed 1 freed 1"},
		step{free: []int{1, 2}},
		step{code: api.ErrModelBare, free: []int{1, 2}},
		step{state: `{"b": false}`, free: []int{1, 2}},
		step{free: []int{1, 2}})
}

// TestP19_5Arena: each cell of a small arena, with its links.
func TestP19_5Arena(t *testing.T) {
	x, _ := New(template(t, `<p :a="v" b="1">{{ v }}<i/></p>y`), 6)
	if code := x.Mount(datum(t, `{"v": 7}`)); code != api.OK {
		t.Fatal(code)
	}
	want := []api.Cell{
		{Live: true, Parent: -1, First: 1, Last: 4, Prev: -1, Next: -1},
		{Live: true, Tag: "p", Attrs: []api.Attr{{Name: "a", Value: "7"}, {Name: "b", Value: "1"}}, Parent: 0, First: 2, Last: 3, Prev: -1, Next: 4},
		{Live: true, Text: "7", Parent: 1, First: -1, Last: -1, Prev: -1, Next: 3},
		{Live: true, Tag: "i", Parent: 1, First: -1, Last: -1, Prev: 2, Next: -1},
		{Live: true, Text: "y", Parent: 0, First: -1, Last: -1, Prev: 1, Next: -1},
		{},
	}
	fs := []api.Tree{{Tag: "p", Attrs: want[1].Attrs, Kids: []api.Tree{{Text: "7"}, {Tag: "i"}}}, {Text: "y"}}
	if got := pictureOf(x); !reflect.DeepEqual(got, pictured(want, []int{5}, api.Counts{Created: 4, Placed: 2}, fs)) {
		t.Errorf("%+v", got)
	}
}
