package vm

import (
	"fmt"
	"math"
	"reflect"
	"slices"
	"strings"
	"testing"

	"stencil/api"
	"stencil/verify"
)

// told is what the root of an arena holds: each node as its handle and its text, or its tag with its attributes and then its kids.
func told(cells []api.Cell) string {
	var out []string
	for node := cells[0].First; node != -1; node = cells[node].Next {
		out = append(out, toldNode(cells, node))
	}
	return strings.Join(out, " ")
}

func toldNode(cells []api.Cell, node int) string {
	c := cells[node]
	if c.Tag == "" {
		return fmt.Sprintf("%d'%s'", node, c.Text)
	}
	words := []string{c.Tag}
	for _, attr := range c.Attrs {
		words = append(words, attr.Name+"="+attr.Value)
	}
	var kids []string
	for kid := c.First; kid != -1; kid = cells[kid].Next {
		kids = append(kids, toldNode(cells, kid))
	}
	return fmt.Sprintf("%d<%s>(%s)", node, strings.Join(words, " "), strings.Join(kids, " "))
}

// grown is by how much the counts have grown; what has not is left out.
func grown(from, to api.Counts) string {
	var out []string
	a, b := reflect.ValueOf(from), reflect.ValueOf(to)
	for i := range a.NumField() {
		if n := b.Field(i).Int() - a.Field(i).Int(); n != 0 {
			out = append(out, fmt.Sprintf("%s %d", strings.ToLower(a.Type().Field(i).Name), n))
		}
	}
	return strings.Join(out, " ")
}

// call is one with what it comes to: a state is mounted, if nothing is, and else updated; none unmounts.
type call struct {
	state  string
	code   api.Errno
	shown  string
	free   []int
	counts string
}

// expectCalls makes the calls one behind the other, of a machine and of what it must be.
func expectCalls(t *testing.T, p api.Program, room int, calls ...call) {
	t.Helper()
	w := newTwin(t, p, room)
	for i, one := range calls {
		before, code := w.x.Counts(), api.OK
		switch {
		case one.state == "":
			code = w.unmount(t)
		case w.m.mounted:
			code = w.update(t, datum(t, one.state))
		default:
			code = w.mount(t, datum(t, one.state))
		}
		shown, free, counts := told(w.x.Cells()), w.x.Free(), grown(before, w.x.Counts())
		if code != one.code || shown != one.shown || !slices.Equal(free, one.free) || counts != one.counts {
			t.Errorf("call %d: %d, %s, free %v, %s\nwant %d, %s, free %v, %s", i, code, shown, free, counts, one.code, one.shown, one.free, one.counts)
		}
	}
}

// page is a program with each kind of operation.
func page() api.Program {
	return programOf(
		elem("ul", attr("a", "1"), bound("c", "p0.t"), each("p0.l", "p1", elem("li", show("p1"), elem("b", bound("n", "p2"))))),
		static(api.Tree{Tag: "hr", Kids: []api.Tree{{Text: "z"}}}),
		either("p0.on", parts(show("p0.t")), parts(text("t"), elem("i"))),
		let("p0.t"), with([]string{"p1", "len(p0.l)"}, show("p2 ~ p3")), drop(1),
	)
}

func TestP23_1New(t *testing.T) {
	for _, room := range []int{1, 2, 3, 10, 8191, 8192} {
		for _, p := range []api.Program{programOf(), programOf(text("x")), page()} {
			x, code := New(p, room)
			if code != api.OK || x == nil {
				t.Fatalf("room %d: %d", room, code)
			}
			cells, free := x.Cells(), x.Free()
			if len(cells) != room || len(free) != room-1 || x.Counts() != (api.Counts{}) || len(x.Forest()) != 0 {
				t.Errorf("room %d: %d cells, %d free, %v", room, len(cells), len(free), x.Counts())
			}
			for i, handle := range free {
				if handle != i+1 || cells[handle].Live {
					t.Fatalf("room %d: %d at place %d of the free list", room, handle, i)
				}
			}
			cells[0].Attrs = nil
			if !reflect.DeepEqual(cells[0], api.Cell{Live: true, Parent: -1, First: -1, Last: -1, Prev: -1, Next: -1}) {
				t.Errorf("room %d: root %+v", room, cells[0])
			}
			if x.Update(datum(t, `{}`)) != api.ErrVmBare || x.Unmount() != api.ErrVmBare {
				t.Errorf("room %d: it is not bare", room)
			}
		}
	}
}

// wrongPrograms are programs that may not be run, by what is wrong.
func wrongPrograms() map[api.Errno]api.Program {
	block := func(ops ...api.Op) api.Program {
		return api.Program{Texts: []string{"p"}, Codes: [][]api.Inst{{{Op: api.INull}}}, Blocks: []api.Block{{Depth: 1, Ops: ops}}}
	}
	texts, codes, trees, depth, update := block(), block(), block(), block(), block()
	texts.Texts = []string{"\xff"}
	codes.Codes = [][]api.Inst{nil}
	trees.Statics = []api.Tree{{Text: "x"}}
	depth.Blocks[0].Depth = 2
	update.Blocks[0].Update = []int{0}
	loops := block(api.Op{Kind: api.OpFor, C: 1})
	loops.Blocks = append(loops.Blocks, api.Block{Depth: 3})
	return map[api.Errno]api.Program{
		api.ErrVerifyText: texts, api.ErrVerifyCode: codes, api.ErrVerifyTree: trees, api.ErrVerifyDepth: depth, api.ErrVerifyUpdate: update, api.ErrVerifyLoop: loops,
		api.ErrVerifyOp: block(api.Op{Kind: 13}), api.ErrVerifyShape: block(api.Op{Kind: api.OpClose}), api.ErrVerifyBlock: {},
	}
}

func TestP23_1Wrong(t *testing.T) {
	wrong := wrongPrograms()
	if len(wrong) != 9 {
		t.Fatal(len(wrong))
	}
	for code, p := range wrong {
		if _, _, want := verify.Verify(p); want != code {
			t.Fatalf("%d: %d", code, want)
		}
		// The program's error is told ahead of the room's.
		for _, room := range []int{5, 0, -1, 8193} {
			if x, got := New(p, room); x != nil || got != code {
				t.Errorf("%d: %d", code, got)
			}
		}
	}
	for _, room := range []int{0, -1, -2, 8193, 16384, math.MaxInt, math.MinInt} {
		for _, p := range []api.Program{programOf(), programOf(text("x")), page()} {
			if x, code := New(p, room); x != nil || code != api.ErrVmRoom {
				t.Errorf("room %d: %d", room, code)
			}
		}
	}
}

// TestP23_3Kinds: each kind of operation, mounted, updated, unmounted, mounted again.
func TestP23_3Kinds(t *testing.T) {
	first := `1<ul a=1 c=x>(2<li>(3'7' 4<b n=0>()) 5<li>(6'8' 7<b n=1>())) 8<hr>(9'z') 10'x' 11'x2'`
	rest := []int{12, 13, 14, 15}
	expectCalls(t, page(), 16,
		call{state: `{"l": [7, 8], "t": "x", "on": true}`, shown: first, free: rest, counts: "created 11 placed 4"},
		call{state: `{"l": [7, 8], "t": "x", "on": true}`, shown: first, free: rest},
		call{state: `{"l": [8, 7], "t": "y", "on": true}`, shown: `1<ul a=1 c=y>(5<li>(6'8' 7<b n=0>()) 2<li>(3'7' 4<b n=1>())) 8<hr>(9'z') 10'y' 11'y2'`, free: rest, counts: "moved 1 attrs 3 texts 2"},
		call{state: `{"l": [9, 7], "t": false, "on": false}`, shown: `1<ul a=1>(10<li>(5'9' 6<b n=0>()) 2<li>(3'7' 4<b n=1>())) 8<hr>(9'z') 7't' 12<i>() 11'false2'`, free: rest[1:], counts: "created 5 placed 3 removed 2 freed 4 attrs 1 texts 1"},
		call{free: []int{11, 12, 7, 8, 9, 1, 10, 5, 6, 2, 3, 4, 13, 14, 15}, counts: "removed 5 freed 12"},
		call{code: api.ErrVmBare, free: []int{11, 12, 7, 8, 9, 1, 10, 5, 6, 2, 3, 4, 13, 14, 15}},
		call{state: `{"l": [], "t": null, "on": true}`, shown: `11<ul a=1>() 12<hr>(7'z') 8'' 9'0'`, free: []int{1, 10, 5, 6, 2, 3, 4, 13, 14, 15}, counts: "created 5 placed 4"})
}

// TestP23_3Ifs: blocks that come, stay, go, and take each other's place, in one another too.
func TestP23_3Ifs(t *testing.T) {
	p := programOf(text("a"), either("p0.b", parts(elem("p", either("p0.c", parts(text("x"), elem("q")), nil))), parts(show("p0.v"), text("u"))), elem("z"))
	expectCalls(t, p, 10,
		call{state: `{"b": true, "c": false}`, shown: `1'a' 2<p>() 3<z>()`, free: []int{4, 5, 6, 7, 8, 9}, counts: "created 3 placed 3"},
		call{state: `{"b": true, "c": true}`, shown: `1'a' 2<p>(4'x' 5<q>()) 3<z>()`, free: []int{6, 7, 8, 9}, counts: "created 2 placed 2"},
		call{state: `{"b": true, "c": true}`, shown: `1'a' 2<p>(4'x' 5<q>()) 3<z>()`, free: []int{6, 7, 8, 9}},
		call{state: `{"b": false, "v": 1}`, shown: `1'a' 2'1' 4'u' 3<z>()`, free: []int{5, 6, 7, 8, 9}, counts: "created 2 placed 2 removed 1 freed 3"},
		call{state: `{"b": false, "v": 2}`, shown: `1'a' 2'2' 4'u' 3<z>()`, free: []int{5, 6, 7, 8, 9}, counts: "texts 1"},
		call{state: `{"b": true, "c": true}`, shown: `1'a' 4<p>(2'x' 5<q>()) 3<z>()`, free: []int{6, 7, 8, 9}, counts: "created 3 placed 1 removed 2 freed 2"},
		call{state: `{"b": true, "c": false}`, shown: `1'a' 4<p>() 3<z>()`, free: []int{5, 2, 6, 7, 8, 9}, counts: "removed 2 freed 2"})
	// A block without operations, and none at all; what stands is seen by what is in it alone.
	p = programOf(either("p0.b", parts(quiet()), nil), either("p0.b", nil, parts(text("n"))), either("p0.b", nil, nil))
	expectCalls(t, p, 3,
		call{state: `{"b": true}`, free: []int{1, 2}},
		call{state: `{"b": false}`, shown: `1'n'`, free: []int{2}, counts: "created 1 placed 1"},
		call{state: `{"b": true}`, free: []int{1, 2}, counts: "removed 1 freed 1"})
	// A block in a block in a block, each with one more value, and the same nodes behind all.
	p = programOf(with([]string{"p0.v"}, either("p1 == 1", parts(with([]string{"p1", "p0"}, show("p2"), text("k"))), parts(elem("e")))), text("l"))
	expectCalls(t, p, 5,
		call{state: `{"v": 1}`, shown: `1'1' 2'k' 3'l'`, free: []int{4}, counts: "created 3 placed 3"},
		call{state: `{"v": 2}`, shown: `2<e>() 3'l'`, free: []int{1, 4}, counts: "created 1 placed 1 removed 2 freed 2"},
		call{state: `{"v": 3}`, shown: `2<e>() 3'l'`, free: []int{1, 4}})
}

// TestP23_3Loops: rows that change, by key and by number, in one another too.
func TestP23_3Loops(t *testing.T) {
	p := programOf(each("p0.l", "p1.k", elem("u", each("p1.m", "p3", elem("b", show("p3"))))))
	expectCalls(t, p, 14,
		call{state: `{"l": [{"k": 1, "m": [1, 2]}, {"k": 2, "m": [3]}]}`, shown: `1<u>(2<b>(3'1') 4<b>(5'2')) 6<u>(7<b>(8'3'))`, free: []int{9, 10, 11, 12, 13}, counts: "created 8 placed 2"},
		call{state: `{"l": [{"k": 2, "m": [4, 3]}, {"k": 1, "m": [2, 1]}]}`, shown: `6<u>(9<b>(10'4') 7<b>(8'3')) 1<u>(4<b>(5'2') 2<b>(3'1'))`, free: []int{11, 12, 13}, counts: "created 2 placed 1 moved 2"},
		// What goes is told in the row in which it stood, what comes in the row in which it will stand.
		call{state: `{"l": [{"k": 3, "m": []}, {"k": 1, "m": [5]}, {"k": 2, "m": []}]}`, shown: `2<u>() 1<u>(3<b>(4'5')) 6<u>()`, free: []int{5, 7, 8, 9, 10, 11, 12, 13}, counts: "created 3 placed 2 moved 1 removed 4 freed 8"},
		call{state: `{"l": [{"k": "3", "m": []}, {"k": 2, "m": [2]}]}`, shown: `1<u>() 6<u>(3<b>(4'2'))`, free: []int{2, 5, 7, 8, 9, 10, 11, 12, 13}, counts: "created 3 placed 2 removed 2 freed 4"})
	p = programOf(each("p0.l", "p2", elem("li", bound("a", "p2"), show("p1"))))
	expectCalls(t, p, 8,
		call{state: `{"l": ["a", "b", "c"]}`, shown: `1<li a=0>(2'a') 3<li a=1>(4'b') 5<li a=2>(6'c')`, free: []int{7}, counts: "created 6 placed 3"},
		call{state: `{"l": ["c", "b"]}`, shown: `1<li a=0>(2'c') 3<li a=1>(4'b')`, free: []int{5, 6, 7}, counts: "removed 1 freed 2 texts 1"},
		call{state: `{"l": ["b", "b", "b"]}`, shown: `1<li a=0>(2'b') 3<li a=1>(4'b') 5<li a=2>(6'b')`, free: []int{7}, counts: "created 2 placed 1 texts 1"})
	// Statics as elements, of several nodes, between others: of a b c d, b and d stay where they are.
	p = programOf(text("x"), each("p0.l", "p1", static(api.Tree{Tag: "s", Kids: []api.Tree{{Text: "y"}}})), each("p0.m", "p1", elem("e")), text("z"))
	expectCalls(t, p, 20,
		call{state: `{"l": ["a", "b", "c", "d"], "m": [1, 2]}`, shown: `1'x' 2<s>(3'y') 4<s>(5'y') 6<s>(7'y') 8<s>(9'y') 10<e>() 11<e>() 12'z'`, free: []int{13, 14, 15, 16, 17, 18, 19}, counts: "created 12 placed 8"},
		call{state: `{"l": ["b", "a", "d", "c"], "m": [2, 1]}`, shown: `1'x' 4<s>(5'y') 2<s>(3'y') 8<s>(9'y') 6<s>(7'y') 11<e>() 10<e>() 12'z'`, free: []int{13, 14, 15, 16, 17, 18, 19}, counts: "moved 3"},
		call{state: `{"l": ["d", "n", "b"], "m": []}`, shown: `1'x' 8<s>(9'y') 10<s>(11'y') 4<s>(5'y') 12'z'`, free: []int{6, 7, 2, 3, 13, 14, 15, 16, 17, 18, 19}, counts: "created 2 placed 1 moved 1 removed 4 freed 6"})
}

// TestP23_3Values: values on the stack, ahead of elements and in them, for what is nested and what comes behind.
func TestP23_3Values(t *testing.T) {
	p := programOf(
		let("p0.v"), let("p1 ~ '!'"), show("p2"),
		elem("p", bound("a", "p1"), let("p2 ~ '?'"), show("p3"), each("p0.l", "p4", elem("q", let("p4 ~ p5"), show("p6"), drop(1))), drop(1), either("p1 == 1", parts(let("p1 + 1"), show("p3"), drop(1)), nil)),
		drop(1), let("7"), show("p2"), drop(2), show("p0.v"),
	)
	expectCalls(t, p, 12,
		call{state: `{"v": 1, "l": ["e"]}`, shown: `1'1!' 2<p a=1>(3'1!?' 4<q>(5'e0') 6'2') 7'7' 8'1'`, free: []int{9, 10, 11}, counts: "created 8 placed 4"},
		call{state: `{"v": 2, "l": ["f", "e"]}`, shown: `1'2!' 2<p a=2>(3'2!?' 6<q>(9'f0') 4<q>(5'e1')) 7'7' 8'2'`, free: []int{10, 11}, counts: "created 2 placed 1 removed 1 freed 1 attrs 1 texts 4"})
	// Of an OpWith each code is reckoned with the stack as it was.
	p = programOf(with([]string{"p0.v", "p0.w", "p0"}, show("p1 ~ p2"), with(nil, show("p3.v")), with([]string{"p2"}, show("p4"))))
	expectCalls(t, p, 5,
		call{state: `{"v": 1, "w": "x"}`, shown: `1'1x' 2'1' 3'x'`, free: []int{4}, counts: "created 3 placed 3"},
		call{state: `{"v": 1, "w": "y"}`, shown: `1'1y' 2'1' 3'y'`, free: []int{4}, counts: "texts 2"})
}

// TestP23_3Bound: what each value comes to, as a text and as an attribute.
func TestP23_3Bound(t *testing.T) {
	p := programOf(elem("p", attr("a", "0"), bound("b", "p0.w"), attr("c", ""), bound("d", "p0.v")), show("p0.v"))
	free := []int{3}
	expectCalls(t, p, 4,
		call{state: `{"v": null, "w": null}`, shown: `1<p a=0 c=>() 2''`, free: free, counts: "created 2 placed 2"},
		call{state: `{"v": true, "w": true}`, shown: `1<p a=0 b= c= d=>() 2'true'`, free: free, counts: "attrs 2 texts 1"},
		call{state: `{"v": "", "w": ""}`, shown: `1<p a=0 b= c= d=>() 2''`, free: free, counts: "texts 1"},
		call{state: `{"v": "true", "w": "x"}`, shown: `1<p a=0 b=x c= d=true>() 2'true'`, free: free, counts: "attrs 2 texts 1"},
		call{state: `{"v": true, "w": "y"}`, shown: `1<p a=0 b=y c= d=>() 2'true'`, free: free, counts: "attrs 2"},
		call{state: `{"v": false, "w": -7}`, shown: `1<p a=0 b=-7 c=>() 2'false'`, free: free, counts: "attrs 2 texts 1"},
		call{state: `{"v": 0, "w": "-7"}`, shown: `1<p a=0 b=-7 c= d=0>() 2'0'`, free: free, counts: "attrs 1 texts 1"},
		call{state: `{"v": "0", "w": false}`, shown: `1<p a=0 c= d=0>() 2'0'`, free: free, counts: "attrs 1"})
}

// TestP23_3None: an update of which nothing is listed looks at nothing but OpLets; what is not listed is left as it is, whatever the state is.
func TestP23_3None(t *testing.T) {
	p := listing(page(), never)
	first := `1<ul a=1 c=x>(2<li>(3'7' 4<b n=0>()) 5<li>(6'8' 7<b n=1>())) 8<hr>(9'z') 10'x' 11'x2'`
	other := `11<ul a=1 c=y>(10<li>(8'8' 9<b n=0>())) 1<hr>(2'z') 3't' 4<i>() 5'y1'`
	rest := []int{6, 7, 12, 13, 14, 15}
	expectCalls(t, p, 16,
		call{state: `{"l": [7, 8], "t": "x", "on": true}`, shown: first, free: []int{12, 13, 14, 15}, counts: "created 11 placed 4"},
		call{state: `{"t": "y", "l": [], "on": false}`, shown: first, free: []int{12, 13, 14, 15}},
		call{state: `{"t": "y"}`, shown: first, free: []int{12, 13, 14, 15}},
		call{state: `{"t": []}`, shown: first, free: []int{12, 13, 14, 15}},
		call{state: `{}`, code: api.ErrEvalPath, shown: first, free: []int{12, 13, 14, 15}},
		call{state: `7`, code: api.ErrEvalType, shown: first, free: []int{12, 13, 14, 15}},
		call{free: []int{11, 10, 8, 9, 1, 2, 3, 4, 5, 6, 7, 12, 13, 14, 15}, counts: "removed 4 freed 11"},
		call{state: `{"t": "y", "l": [8], "on": false}`, shown: other, free: rest, counts: "created 9 placed 5"},
		call{state: `{"t": "x", "l": [8, 7], "on": true}`, shown: other, free: rest})
}

// TestP23_3Some: what is listed of a block is looked at, the rest is left as it is; where an instance is made anew, all is done.
func TestP23_3Some(t *testing.T) {
	p := programOf(
		elem("p", quiet(bound("a", "p0.v")), bound("b", "p0.v"), quiet(bound("c", "p0.w")), bound("d", "p0.w"), quiet(show("p0.v")), show("p0.v")),
		quiet(either("p0.t", parts(show("p0.v")), nil)),
		either("p0.t", parts(quiet(show("p0.v")), show("p0.v"), quiet(either("p0.t", parts(elem("i")), nil))), nil),
	)
	rest := []int{8, 9}
	expectCalls(t, p, 10,
		call{state: `{"v": 1, "w": true, "t": true}`, shown: `1<p a=1 b=1 c= d=>(2'1' 3'1') 4'1' 5'1' 6'1' 7<i>()`, free: rest, counts: "created 7 placed 5"},
		call{state: `{"v": 2, "w": null, "t": true}`, shown: `1<p a=1 b=2 c=>(2'1' 3'2') 4'1' 5'1' 6'2' 7<i>()`, free: rest, counts: "attrs 2 texts 2"},
		call{state: `{"v": 3, "w": null, "t": false}`, shown: `1<p a=1 b=3 c=>(2'1' 3'3') 4'1'`, free: []int{7, 6, 5, 8, 9}, counts: "removed 3 freed 3 attrs 1 texts 1"},
		call{state: `{"v": null, "w": 5, "t": true}`, shown: `1<p a=1 c= d=5>(2'1' 3'') 4'1' 7'' 6'' 5<i>()`, free: rest, counts: "created 3 placed 3 attrs 2 texts 1"},
		call{state: `{"v": 4, "w": 5, "t": true}`, shown: `1<p a=1 b=4 c= d=5>(2'1' 3'4') 4'1' 7'' 6'4' 5<i>()`, free: rest, counts: "attrs 1 texts 2"})
	// An OpIf that is not listed stays as it is, even where nothing stands; an OpLet in what is left is not done.
	p = programOf(
		quiet(either("p0.t", parts(let("p0.v"), show("p1"), drop(1)), parts(either("p0.t", parts(elem("z")), nil)))),
		either("p0.b", parts(quiet(either("p0.t", parts(elem("y")), nil)), quiet(let("p0.u"), drop(1))), nil),
	)
	expectCalls(t, p, 5,
		call{state: `{"t": true, "v": 1, "b": true, "u": 0}`, shown: `1'1' 2<y>()`, free: []int{3, 4}, counts: "created 2 placed 2"},
		call{state: `{"b": true, "u": 0}`, shown: `1'1' 2<y>()`, free: []int{3, 4}},
		call{state: `{"b": true}`, code: api.ErrEvalPath, shown: `1'1' 2<y>()`, free: []int{3, 4}},
		call{state: `{"b": false}`, shown: `1'1'`, free: []int{2, 3, 4}, counts: "removed 1 freed 1"},
		call{state: `{"b": true, "t": false, "u": 0}`, shown: `1'1'`, free: []int{2, 3, 4}},
		// The block of the second OpIf stands now, with nothing in it.
		call{state: `{"b": true, "t": true, "u": 0}`, shown: `1'1'`, free: []int{2, 3, 4}},
		call{free: []int{1, 2, 3, 4}, counts: "removed 1 freed 1"},
		call{state: `{"b": false, "t": false}`, free: []int{1, 2, 3, 4}},
		call{state: `{"b": true, "t": true, "u": 1}`, shown: `1<y>()`, free: []int{2, 3, 4}, counts: "created 1 placed 1"})
}

// TestP23_3LoopsLeft: loops and uses that are not listed, in and around such as are; their elements are moved with what they are in.
func TestP23_3LoopsLeft(t *testing.T) {
	p := programOf(
		quiet(each("p0.l", "p1", elem("a", show("p0.v")))),
		each("p0.m", "p1.k", elem("b", quiet(each("p1.l", "p3", elem("c"))), quiet(with([]string{"p1.k"}, show("p3 ~ p0.v"))), show("p0.v"))),
	)
	expectCalls(t, p, 20,
		call{state: `{"l": [1, 2], "m": [{"k": 1, "l": [1, 2]}, {"k": 2, "l": []}], "v": "x"}`, shown: `1<a>(2'x') 3<a>(4'x') 5<b>(6<c>() 7<c>() 8'1x' 9'x') 10<b>(11'2x' 12'x')`, free: []int{13, 14, 15, 16, 17, 18, 19}, counts: "created 12 placed 4"},
		call{state: `{"m": [{"k": 2}, {"k": 3, "l": [5]}, {"k": 1}], "v": "y"}`, shown: `1<a>(2'x') 3<a>(4'x') 10<b>(11'2x' 12'y') 13<b>(14<c>() 15'3y' 16'y') 5<b>(6<c>() 7<c>() 8'1x' 9'y')`, free: []int{17, 18, 19}, counts: "created 4 placed 1 moved 1 texts 2"},
		call{state: `{"m": [{"k": 1}], "v": "y"}`, shown: `1<a>(2'x') 3<a>(4'x') 5<b>(6<c>() 7<c>() 8'1x' 9'y')`, free: []int{13, 14, 15, 16, 10, 11, 12, 17, 18, 19}, counts: "removed 2 freed 7"},
		call{free: []int{5, 6, 7, 8, 9, 3, 4, 1, 2, 13, 14, 15, 16, 10, 11, 12, 17, 18, 19}, counts: "removed 3 freed 9"})
	// All listed but for the elements' own: they are moved, and left as they are.
	p = programOf(each("p0.l", "p1", quiet(elem("a", bound("n", "p2"), show("p2"), each("p0.l", "p3", elem("i"))))))
	expectCalls(t, p, 9,
		call{state: `{"l": [1, 2]}`, shown: `1<a n=0>(2'0' 3<i>() 4<i>()) 5<a n=1>(6'1' 7<i>() 8<i>())`, counts: "created 8 placed 2"},
		call{state: `{"l": [2, 1]}`, shown: `5<a n=1>(6'1' 7<i>() 8<i>()) 1<a n=0>(2'0' 3<i>() 4<i>())`, counts: "moved 1"},
		call{state: `{"l": [3, 2]}`, shown: `1<a n=0>(2'0' 3<i>() 4<i>()) 5<a n=1>(6'1' 7<i>() 8<i>())`, counts: "created 4 placed 1 removed 1 freed 4"})
}

// TestP23_3Full: just as many nodes as there is room for, and one more; what goes is let go first, so the old and the new nodes need not fit together.
func TestP23_3Full(t *testing.T) {
	p := programOf(text("a"), each("p0.l", "p1", elem("b", show("p1"))), static(api.Tree{Tag: "i"}))
	one, other := `1'a' 2<b>(3'1') 4<i>()`, `1'a' 2<b>(3'2') 4<i>()`
	expectCalls(t, p, 5,
		call{state: `{"l": [1, 2]}`, code: api.ErrVmFull, free: []int{1, 2, 3, 4}},
		call{state: `{"l": [1]}`, shown: one, counts: "created 4 placed 3"},
		call{state: `{"l": [1, 2]}`, code: api.ErrVmFull, shown: one},
		call{state: `{"l": [2]}`, shown: other, counts: "created 2 placed 1 removed 1 freed 2"},
		call{state: `{"l": [2, 3]}`, code: api.ErrVmFull, shown: other},
		call{state: `{"l": []}`, shown: `1'a' 4<i>()`, free: []int{2, 3}, counts: "removed 1 freed 2"})
	expectCalls(t, programOf(), 1, call{state: `{}`}, call{state: `7`}, call{}, call{code: api.ErrVmBare})
	expectCalls(t, programOf(text("x")), 1, call{state: `{}`, code: api.ErrVmFull}, call{code: api.ErrVmBare})
	expectCalls(t, programOf(text("x")), 2, call{state: `{}`, shown: `1'x'`, counts: "created 1 placed 1"})
	expectCalls(t, programOf(elem("p", text("x"))), 2, call{state: `{}`, code: api.ErrVmFull, free: []int{1}})
	expectCalls(t, programOf(static(api.Tree{Tag: "p", Kids: []api.Tree{{Text: "x"}}})), 2, call{state: `{}`, code: api.ErrVmFull, free: []int{1}})
	expectCalls(t, programOf(static(api.Tree{Tag: "p", Kids: []api.Tree{{Text: "x"}}})), 3, call{state: `{}`, shown: `1<p>(2'x')`, counts: "created 2 placed 1"})
	// What is left as it is counts too.
	p = programOf(quiet(each("p0.l", "p1", elem("b"))), either("p0.b", parts(text("x")), nil))
	expectCalls(t, p, 4,
		call{state: `{"l": [1, 2, 3], "b": false}`, shown: `1<b>() 2<b>() 3<b>()`, counts: "created 3 placed 3"},
		call{state: `{"b": true}`, code: api.ErrVmFull, shown: `1<b>() 2<b>() 3<b>()`},
		call{free: []int{3, 2, 1}, counts: "removed 3 freed 3"},
		call{state: `{"l": [1, 2], "b": false}`, shown: `3<b>() 2<b>()`, free: []int{1}, counts: "created 2 placed 2"},
		call{state: `{"b": true}`, shown: `3<b>() 2<b>() 1'x'`, counts: "created 1 placed 1"})
	// Nothing that was there stays.
	p = programOf(either("p0.b", parts(elem("p", text("x"), elem("i"))), parts(elem("u", text("y")), text("z"))))
	expectCalls(t, p, 4,
		call{state: `{"b": true}`, shown: `1<p>(2'x' 3<i>())`, counts: "created 3 placed 1"},
		call{state: `{"b": false}`, shown: `1<u>(2'y') 3'z'`, counts: "created 3 placed 2 removed 1 freed 3"},
		call{state: `{"b": true}`, shown: `3<p>(1'x' 2<i>())`, counts: "created 3 placed 1 removed 2 freed 3"})
}

// TestP23_4Unmount: the kids of the root go in the row in which they stand, not in that in which they came; a machine that shows nothing is mounted too.
func TestP23_4Unmount(t *testing.T) {
	expectCalls(t, programOf(each("p0.l", "p1", elem("b"))), 6,
		call{code: api.ErrVmBare, free: []int{1, 2, 3, 4, 5}},
		call{state: `{"l": [1, 2, 3]}`, shown: `1<b>() 2<b>() 3<b>()`, free: []int{4, 5}, counts: "created 3 placed 3"},
		call{state: `{"l": [2, 3, 1]}`, shown: `2<b>() 3<b>() 1<b>()`, free: []int{4, 5}, counts: "moved 1"},
		call{free: []int{1, 3, 2, 4, 5}, counts: "removed 3 freed 3"},
		call{code: api.ErrVmBare, free: []int{1, 3, 2, 4, 5}},
		call{state: `{"l": [2, 1]}`, shown: `1<b>() 3<b>()`, free: []int{2, 4, 5}, counts: "created 2 placed 2"})
	expectCalls(t, programOf(either("p0.b", parts(text("x")), nil)), 3,
		call{state: `{"b": false}`, free: []int{1, 2}},
		call{state: `{"b": true}`, shown: `1'x'`, free: []int{2}, counts: "created 1 placed 1"},
		call{state: `{"b": false}`, free: []int{1, 2}, counts: "removed 1 freed 1"},
		call{free: []int{1, 2}},
		call{code: api.ErrVmBare, free: []int{1, 2}},
		call{state: `{"b": false}`, free: []int{1, 2}},
		call{free: []int{1, 2}})
}

// TestP23_6Arena: each cell of a small arena, with its links.
func TestP23_6Arena(t *testing.T) {
	x, _ := New(programOf(elem("p", bound("a", "p0.v"), attr("b", "1"), show("p0.v"), static(api.Tree{Tag: "i", Attrs: []api.Attr{{Name: "c", Value: "2"}}})), text("y")), 6)
	if code := x.Mount(datum(t, `{"v": 7}`)); code != api.OK {
		t.Fatal(code)
	}
	want := []api.Cell{
		{Live: true, Parent: -1, First: 1, Last: 4, Prev: -1, Next: -1},
		{Live: true, Tag: "p", Attrs: []api.Attr{{Name: "a", Value: "7"}, {Name: "b", Value: "1"}}, Parent: 0, First: 2, Last: 3, Prev: -1, Next: 4},
		{Live: true, Text: "7", Parent: 1, First: -1, Last: -1, Prev: -1, Next: 3},
		{Live: true, Tag: "i", Attrs: []api.Attr{{Name: "c", Value: "2"}}, Parent: 1, First: -1, Last: -1, Prev: 2, Next: -1},
		{Live: true, Text: "y", Parent: 0, First: -1, Last: -1, Prev: 1, Next: -1},
		{},
	}
	fs := []api.Tree{{Tag: "p", Attrs: want[1].Attrs, Kids: []api.Tree{{Text: "7"}, {Tag: "i", Attrs: want[3].Attrs}}}, {Text: "y"}}
	if got := pictureOf(x); !reflect.DeepEqual(got, pictured(want, []int{5}, api.Counts{Created: 4, Placed: 2}, fs)) {
		t.Errorf("%+v", got)
	}
}
