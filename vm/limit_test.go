package vm

import (
	"slices"
	"testing"

	"stencil/api"
)

// most is how many nodes a forest may have.
const most = 4096

// times is a part so often.
func times(n int, one part) part {
	return func(m *making) {
		for range n {
			one(m)
		}
	}
}

// wide is a static of so many nodes.
func wide(nodes int) api.Tree {
	return api.Tree{Tag: "s", Kids: slices.Repeat([]api.Tree{{Text: "x"}}, nodes-1)}
}

// counted is a state that is a record with those fields, and a list l of so many numbers.
func counted(t *testing.T, count int, s string) api.Value {
	t.Helper()
	v := datum(t, s)
	v.Names = append(v.Names, "l")
	v.List = append(v.List, numbers(count).List[0])
	return v
}

// items is a loop over l, of as many nodes as l has elements; left is one that an update leaves as it is.
func items() part { return each("p0.l", "$2", static(wide(1))) }

func left() part { return quiet(each("p0.l", "$2", elem("p"))) }

func expectMount(t *testing.T, p api.Program, v api.Value, code api.Errno) *Vm {
	t.Helper()
	x, refused := New(p, api.MaxRoom)
	if refused != api.OK {
		t.Fatal(refused)
	}
	if got := x.Mount(v); got != code {
		t.Errorf("%d, want %d", got, code)
	}
	return x
}

// TestP23_2Large: just as many nodes as a forest may have, and one more, of each kind by itself.
func TestP23_2Large(t *testing.T) {
	t.Parallel()
	for name, of := range map[string]func(nodes int) part{
		"texts":  func(nodes int) part { return times(nodes, text("x")) },
		"values": func(nodes int) part { return times(nodes, show("p0.b")) },
		"elements": func(nodes int) part {
			return with(nil, times(nodes/2, elem("p")), with(nil, times(nodes-nodes/2, elem("p"))))
		},
		"nested": func(nodes int) part {
			return with(nil, times(nodes/4, elem("p", elem("q", text("x"), elem("r")))), times(nodes%4, text("x")))
		},
		"a static": func(nodes int) part { return with(nil, static(wide(nodes-nodes/2)), static(wide(nodes/2))) },
		"statics": func(nodes int) part {
			return with(nil, times(nodes%2, static(wide(1))), times(nodes/2, static(wide(2))))
		},
		"loops":      func(nodes int) part { return items() },
		"left loops": func(nodes int) part { return left() },
	} {
		for _, nodes := range []int{most - 1, most, most + 1, most + 2} {
			p, v, want := programOf(of(nodes)), counted(t, nodes, `{"b": true}`), api.OK
			if nodes > most {
				want = api.ErrVmLarge
			}
			x := expectMount(t, p, v, want)
			if n := x.Counts(); want == api.OK && n.Created != nodes || want != api.OK && n.Created != 0 {
				t.Errorf("%s: %+v", name, n)
			}
			if want == api.OK && (x.Update(v) != api.OK || x.Update(counted(t, nodes, `{"b": false}`)) != api.OK) {
				t.Errorf("%s: %d nodes can't be updated", name, nodes)
			}
		}
	}
}

// lasts are parts with how many nodes they are.
func lasts() map[int][]part {
	return map[int][]part{
		0: {with(nil), either("p0.b", parts(quiet()), nil), either("!p0.b", parts(text("y")), nil), each("p0.none", "$2", elem("p"))},
		1: {text("y"), show("p0.b"), elem("p", bound("a", "p0.b")), static(wide(1)), with(nil, text("y")), either("p0.b", parts(elem("p")), nil), each("p0.one", "$2", elem("p"))},
		2: {elem("p", show("p0.b")), static(wide(2)), with(nil, text("y"), elem("q")), either("p0.b", parts(static(wide(2))), parts(text("y"))), each("p0.one", "$2", elem("p", text("y")))},
		7: {static(wide(7)), quiet(each("p0.seven", "$2", elem("p"))), quiet(with(nil, times(7, show("p0.b")))), quiet(either("p0.b", parts(elem("p", times(6, text("y")))), nil))},
	}
}

// TestP23_3Large: each kind of operation where it just fits, and where it does not, of a state that is mounted and of one that takes the place of another.
func TestP23_3Large(t *testing.T) {
	t.Parallel()
	const s = `{"b": true, "none": [], "one": [1], "seven": [1, 2, 3, 4, 5, 6, 7]}`
	for size, those := range lasts() {
		for _, last := range those {
			for i, p := range []api.Program{programOf(items(), last), programOf(last, items()), programOf(elem("p", items()), last), programOf(items(), elem("p", last))} {
				// The last two have an element more.
				list := most - size - i/2
				fits, over := counted(t, list, s), counted(t, list+1, s)
				expectMount(t, p, over, api.ErrVmLarge)
				x := expectMount(t, p, fits, api.OK)
				before := x.Counts()
				if x.Update(over) != api.ErrVmLarge || x.Update(fits) != api.OK || x.Counts() != before || len(x.Free()) != api.MaxRoom-1-most {
					t.Errorf("%d nodes: %+v", size, x.Counts())
				}
			}
		}
	}
}

// TestP23_3LargeLeft: what is left as it is counts with all its nodes at once, at its operation, whatever the state is.
func TestP23_3LargeLeft(t *testing.T) {
	t.Parallel()
	grow := func(test string) part { return either(test, parts(text("y"), elem("q")), nil) }
	z := let("p0.z")
	for _, c := range []struct {
		p    api.Program
		then string
		left int
		code api.Errno
	}{
		{programOf(grow("p0.b"), left(), z, drop(1)), `{"b": true, "z": 0}`, most - 2, api.OK},
		{programOf(grow("p0.b"), left(), z, drop(1)), `{"b": true, "z": 0}`, most - 1, api.ErrVmLarge},
		{programOf(grow("p0.b"), left(), z, drop(1)), `{"b": true}`, most - 2, api.ErrEvalPath},
		{programOf(grow("p0.b"), left(), z, drop(1)), `{"b": true}`, most - 1, api.ErrVmLarge},
		{programOf(grow("p0.b"), z, left(), drop(1)), `{"b": true}`, most - 1, api.ErrEvalPath},
		{programOf(left(), z, grow("p0.b"), drop(1)), `{"b": true}`, most, api.ErrEvalPath},
		{programOf(left(), grow("p0.b"), z, drop(1)), `{"b": true}`, most - 1, api.ErrVmLarge},
		{programOf(left(), grow("p0.b"), z, drop(1)), `{"b": true}`, most - 2, api.ErrEvalPath},
		{programOf(left(), grow("p0.c"), z, drop(1)), `{"b": true}`, most, api.ErrEvalPath},
		{programOf(grow("p0.b"), elem("p", quiet(with(nil, left()))), z, drop(1)), `{"b": true}`, most - 3, api.ErrEvalPath},
		{programOf(grow("p0.b"), elem("p", quiet(with(nil, left()))), z, drop(1)), `{"b": true}`, most - 2, api.ErrVmLarge},
		{programOf(grow("p0.b"), quiet(either("!p0.b", parts(elem("p", left())), nil)), z, drop(1)), `{"b": true}`, most - 3, api.ErrEvalPath},
		{programOf(grow("p0.b"), quiet(either("!p0.b", parts(elem("p", left())), nil)), z, drop(1)), `{"b": true}`, most - 2, api.ErrVmLarge},
		// Of a text that is left one node counts too.
		{programOf(left(), grow("p0.b"), quiet(show("p0.b")), z, drop(1)), `{"b": true}`, most - 3, api.ErrEvalPath},
		{programOf(left(), grow("p0.b"), quiet(show("p0.b")), z, drop(1)), `{"b": true}`, most - 2, api.ErrVmLarge},
		{programOf(left(), grow("p0.b"), quiet(elem("p", bound("a", "p0.b"))), z, drop(1)), `{"b": true}`, most - 3, api.ErrEvalPath},
		{programOf(left(), grow("p0.b"), quiet(elem("p", bound("a", "p0.b"))), z, drop(1)), `{"b": true}`, most - 2, api.ErrVmLarge},
	} {
		for _, then := range []string{c.then, `{"l": [], ` + c.then[1:]} {
			first := counted(t, c.left, `{"b": false, "c": false, "z": 0}`)
			x := expectMount(t, c.p, first, api.OK)
			if code := x.Update(datum(t, then)); code != c.code {
				t.Errorf("%s: %d, want %d", then, code, c.code)
			}
		}
	}
}

// TestP23_2LargeFirst: of a text or an element that is one too many nothing else is asked, of all else what comes ahead of it.
func TestP23_2LargeFirst(t *testing.T) {
	t.Parallel()
	for i, c := range []struct {
		last part
		// over is what is met where the next node is one too many, code where it is the last one that may be.
		over, code api.Errno
	}{
		{show("p0.z"), api.ErrVmLarge, api.ErrEvalPath}, {elem("p", bound("a", "p0.z")), api.ErrVmLarge, api.ErrEvalPath}, {elem("p", show("p0.z")), api.ErrVmLarge, api.ErrVmLarge},
		{static(wide(1)), api.ErrVmLarge, api.OK}, {static(wide(2)), api.ErrVmLarge, api.ErrVmLarge},
		{either("p0.z", parts(text("y")), nil), api.ErrEvalPath, api.ErrEvalPath}, {either("p0.twice", nil, nil), api.ErrEvalType, api.ErrEvalType}, {either("p0.b", parts(show("p0.z")), nil), api.ErrVmLarge, api.ErrEvalPath},
		{each("p0.z", "$2", elem("p")), api.ErrEvalPath, api.ErrEvalPath}, {each("p0.b", "$2", elem("p")), api.ErrEvalType, api.ErrEvalType}, {each("p0.twice", "$2", elem("p")), api.ErrVmKey, api.ErrVmKey}, {each("p0.twice", "p0.z", elem("p")), api.ErrEvalPath, api.ErrEvalPath},
		{each("p0.twice", "$1", elem("p")), api.ErrVmLarge, api.ErrVmLarge}, {each("p0.twice", "$1", elem("p", bound("a", "p0.z"))), api.ErrVmLarge, api.ErrEvalPath},
		{with([]string{"p0.z"}, text("y")), api.ErrEvalPath, api.ErrEvalPath}, {with([]string{"p0.b"}, text("y")), api.ErrVmLarge, api.OK}, {with(nil, let("p0.z"), drop(1), text("y")), api.ErrEvalPath, api.ErrEvalPath}, {with(nil, text("y"), let("p0.z"), drop(1)), api.ErrVmLarge, api.ErrEvalPath},
	} {
		const s = `{"b": true, "twice": [1, 1]}`
		p, inside := programOf(items(), c.last), programOf(elem("p", items(), c.last))
		expectMount(t, p, counted(t, most, s), c.over)
		expectMount(t, p, counted(t, most-1, s), c.code)
		expectMount(t, inside, counted(t, most-1, s), c.over)
		expectMount(t, inside, counted(t, most-2, s), c.code)
		if t.Failed() {
			t.Fatalf("row %d", i)
		}
	}
}

// TestP23_3Largest: as many nodes as a forest may have, in arenas that they fill, overfill, and do not fill.
func TestP23_3Largest(t *testing.T) {
	p := programOf(each("p0.l", "p1", elem("b")))
	for _, c := range []struct {
		room int
		code api.Errno
	}{{most - 1, api.ErrVmFull}, {most, api.ErrVmFull}, {most + 1, api.OK}, {api.MaxRoom, api.OK}} {
		x, _ := New(p, c.room)
		if code := x.Mount(numbers(most + 1)); code != api.ErrVmLarge {
			t.Errorf("room %d: %d", c.room, code)
		}
		if code := x.Mount(numbers(most)); code != c.code {
			t.Fatalf("room %d: %d", c.room, code)
		}
		if c.code != api.OK {
			if x.Counts() != (api.Counts{}) || len(x.Free()) != c.room-1 || x.Mount(numbers(c.room-1)) != api.OK || len(x.Free()) != 0 {
				t.Errorf("room %d: %+v", c.room, x.Counts())
			}
			continue
		}
		others := numbers(most)
		for i := range others.List[0].List {
			others.List[0].List[i].Int += most
		}
		if code := x.Update(others); code != api.OK || len(x.Forest()) != most || len(x.Free()) != c.room-1-most {
			t.Errorf("room %d: %d, %d free", c.room, code, len(x.Free()))
		}
		if n := x.Counts(); n != (api.Counts{Created: 2 * most, Placed: 2 * most, Removed: most, Freed: most}) {
			t.Errorf("room %d: %+v", c.room, n)
		}
		// The last one that went is the first one that is taken.
		if cells := x.Cells(); cells[0].First != most || cells[0].Last != 1 {
			t.Errorf("room %d: %d, %d", c.room, cells[0].First, cells[0].Last)
		}
	}
}

// TestP23_3Deep: elements as deep as they may lie, in one block and in blocks in one another, with texts and statics in the innermost.
func TestP23_3Deep(t *testing.T) {
	tower := wide(1)
	for range 31 {
		tower = api.Tree{Tag: "s", Kids: []api.Tree{tower}}
	}
	for _, around := range []func(one part) part{
		func(one part) part { return elem("p", one) }, func(one part) part { return elem("p", either("p0.b", parts(one), nil)) }, func(one part) part { return elem("p", with(nil, one)) }, func(one part) part { return either("p0.b", parts(elem("p", one)), nil) },
	} {
		inner := show("p0.v")
		for range 2*api.MaxNest - 1 {
			inner = around(inner)
		}
		w := newTwin(t, programOf(inner), 2*api.MaxNest+1)
		for i, s := range []string{`{"b": true, "v": 1}`, `{"b": true, "v": 2}`, `{"b": true, "v": "x"}`} {
			v := datum(t, s)
			if i == 0 && w.mount(t, v) != api.OK || i > 0 && w.update(t, v) != api.OK {
				t.Fatal("refused")
			}
		}
		if n := w.x.Counts(); n != (api.Counts{Created: 2 * api.MaxNest, Placed: 1, Texts: 2}) || w.unmount(t) != api.OK {
			t.Errorf("%+v", n)
		}
		inner = static(tower)
		for range 32 {
			inner = around(inner)
		}
		w = newTwin(t, programOf(inner), 2*api.MaxNest+1)
		if w.mount(t, datum(t, `{"b": true}`)) != api.OK || w.update(t, datum(t, `{"b": true}`)) != api.OK || w.unmount(t) != api.OK {
			t.Error("refused")
		}
	}
	// As many loops in one another, and values on the stack, as may be.
	inner := show("$1 ~ $2")
	for range api.MaxLoops {
		inner = each("p0.l", "$2", elem("p", inner))
	}
	w := newTwin(t, programOf(inner), 1200)
	if w.mount(t, datum(t, `{"l": ["a", 1]}`)) != api.OK || w.update(t, datum(t, `{"l": [1, "a"]}`)) != api.OK || w.update(t, datum(t, `{"l": ["b", "a"]}`)) != api.OK || w.x.Counts().Moved != 255 {
		t.Errorf("%+v", w.x.Counts())
	}
	w = newTwin(t, programOf(times(api.MaxStack-1, let("p0 + 1")), show("$1 + p62"), drop(api.MaxStack-1)), 4)
	if w.mount(t, datum(t, `1`)) != api.OK || w.update(t, datum(t, `2`)) != api.OK || w.x.Forest()[0].Text != "6" {
		t.Errorf("%+v", w.x.Forest())
	}
}

// TestP23_3ManyBlocks: as many blocks as there may be, in one another and beside one another.
func TestP23_3ManyBlocks(t *testing.T) {
	t.Parallel()
	chain := api.Program{Texts: []string{"x"}, Codes: [][]api.Inst{{{Op: api.IVar}}}}
	beside := api.Program{Texts: []string{"x"}, Codes: [][]api.Inst{{{Op: api.IVar}}}, Blocks: []api.Block{{Depth: 1}}}
	for number := range api.MaxBlocks - 1 {
		op := api.Op{Kind: api.OpIf, B: number + 1}
		if number%2 == 0 {
			op = api.Op{Kind: api.OpWith, C: number + 1}
		}
		chain.Blocks = append(chain.Blocks, api.Block{Depth: 1, Ops: []api.Op{op}, Update: []int{0}})
		beside.Blocks[0].Ops = append(beside.Blocks[0].Ops, api.Op{Kind: api.OpIf, B: number + 1})
		beside.Blocks[0].Update = append(beside.Blocks[0].Update, number)
		beside.Blocks = append(beside.Blocks, api.Block{Depth: 1})
	}
	chain.Blocks = append(chain.Blocks, api.Block{Depth: 1, Ops: slices.Repeat([]api.Op{{Kind: api.OpText}}, most)})
	beside.Blocks[5000].Ops = slices.Repeat([]api.Op{{Kind: api.OpText}}, most)
	yes, no := datum(t, `true`), datum(t, `false`)
	for _, p := range []api.Program{chain, beside} {
		x := expectMount(t, p, yes, api.OK)
		if x.Update(yes) != api.OK || len(x.Forest()) != most || x.Update(no) != api.OK || len(x.Forest()) != 0 || x.Update(yes) != api.OK || len(x.Forest()) != most || x.Unmount() != api.OK {
			t.Errorf("%+v", x.Counts())
		}
		if n := x.Counts(); n != (api.Counts{Created: 2 * most, Placed: 2 * most, Removed: 2 * most, Freed: 2 * most}) {
			t.Errorf("%+v", n)
		}
	}
}
