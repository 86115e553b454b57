package render

import (
	"slices"
	"strings"
	"testing"

	"stencil/api"
	"stencil/forest"
)

// TestP16_2None: no nodes.
func TestP16_2None(t *testing.T) {
	for _, state := range []api.Value{rec("b,l", truth(false), row()), rec("b,l,x", truth(false), row(), null)} {
		for _, cs := range [][]api.Core{nil, {}, list(when(of("b"), text("x"))), list(otherwise(when(op(api.ENot, of("b"))), text("x"))), list(loop(of("l"), v(1), elem("p"))), list(with(nil)), list(with(exprs(num(1)), when(of("b")), loop(of("l"), v(2), elem("p"))))} {
			expect(t, cs, state, "")
		}
		expect(t, list(elem("p", when(of("b"), text("x")))), state, "<p></p>")
	}
}

// expectCount holds Render against how many nodes come out, or an error.
func expectCount(t *testing.T, cs []api.Core, v api.Value, count int, want api.Errno) {
	t.Helper()
	fs, code := Render(cs, v)
	if code != want || forest.Count(fs) != count {
		t.Errorf("%s of %s: %d nodes, %d, want %d, %d", shownCore(cs), shown(v), forest.Count(fs), code, count, want)
	}
	expectAsked(t, cs, v)
}

// TestP16_2Large: MaxNodes nodes and one more, as a text and as an element, wherever it stands.
func TestP16_2Large(t *testing.T) {
	t.Parallel()
	const most = api.MaxNodes
	each := loop(v(0), v(2), elem("b"))
	for name, last := range map[string]api.Core{"text": text("x"), "bound text": hole(num(1)), "element": elem("p"), "in an if": when(op(api.ETrue), text("x")), "in an else": otherwise(when(op(api.EFalse)), elem("p")), "in a with": with(exprs(num(1)), text("x")), "in a for": loop(index(v(0), num(0)), v(2), elem("p"))} {
		for n := most - 2; n <= most+1; n++ {
			state := many(n)
			state.List[0] = row(whole(1))
			count, code := n+1, api.OK
			if n+1 > most {
				count, code = 0, api.ErrRenderLarge
			}
			expectCount(t, list(each, last), state, count, code)
			expectCount(t, list(last, each), state, count, code)
			if t.Failed() {
				t.Fatal(name)
			}
			if n+2 > most {
				count, code = 0, api.ErrRenderLarge
			}
			if code == api.OK {
				count++
			}
			expectCount(t, list(elem("q", each, last)), state, count, code)
		}
	}
	for n := most - 1; n <= most+2; n++ {
		count, code := n, api.OK
		if n > most {
			count, code = 0, api.ErrRenderLarge
		}
		expectCount(t, list(each), many(n), count, code)
		expectCount(t, list(elem("q", each)), many(n-1), count, code)
	}
	three := list(loop(v(0), v(2), nested(2, hole(v(1)))))
	expectCount(t, three, many(most/3), most/3*3, api.OK)
	expectCount(t, three, many(most/3+1), 0, api.ErrRenderLarge)
	expectCount(t, list(each), many(api.MaxItems-1), 0, api.ErrRenderLarge)
	expectCount(t, slices.Repeat(list(elem("p")), api.MaxCore), null, api.MaxCore, api.OK)
	// Texts that have no byte count; what is no node does not.
	empty := list(loop(v(0), v(2), elem("b", hole(op(api.ENull)))))
	expectCount(t, empty, many(most/2), most, api.OK)
	expectCount(t, empty, many(most/2+1), 0, api.ErrRenderLarge)
	bare := list(loop(v(0), v(2), elem("b", with(exprs(v(1)), when(op(api.EFalse), text("x")), loop(index(v(0), num(0)), v(4), elem("p"))), when(op(api.ETrue)))))
	state := many(most)
	state.List[0] = row()
	expectCount(t, bare, state, most, api.OK)
}

// TestP16_2LargeFirst: that there are too many nodes is told ahead of all else of that node, and behind all that the walk meets ahead of it.
func TestP16_2LargeFirst(t *testing.T) {
	t.Parallel()
	each := loop(of("l"), v(2), elem("b"))
	state := func(n int) api.Value { return rec("l,long", many(n), txt(strings.Repeat("x", api.MaxStr))) }
	for code, c := range map[api.Errno]api.Core{api.ErrEvalPath: hole(of("none")), api.ErrEvalType: hole(v(0)), api.ErrEvalLong: parts(plain("x"), bound(of("long"))), api.ErrEvalZero: fields(elem("p"), boundField("a", op(api.EDiv, num(1), num(0))))} {
		expectFault(t, list(each, c), state(api.MaxNodes), api.ErrRenderLarge)
		expectFault(t, list(each, c), state(api.MaxNodes-1), code)
		expectFault(t, list(c, each), state(api.MaxNodes), code)
		expectFault(t, list(elem("p", each, c)), state(api.MaxNodes-1), api.ErrRenderLarge)
		expectFault(t, list(elem("p", each, c)), state(api.MaxNodes-2), code)
		// In the kid of a loop that is too long, the fault is met in its first element.
		expectFault(t, list(loop(of("l"), v(2), elem("p", c))), state(api.MaxNodes+1), code)
	}
	// What makes no node is asked, however many there are.
	for code, c := range map[api.Errno]api.Core{api.ErrEvalPath: when(of("none"), text("x")), api.ErrEvalType: loop(num(1), num(1), elem("p")), api.ErrEvalZero: with(exprs(op(api.EDiv, num(1), num(0))), text("x")), api.ErrRenderKey: loop(of("l"), num(1), elem("p"))} {
		expectFault(t, list(each, c), state(api.MaxNodes), code)
		expectFault(t, list(each, c), state(api.MaxNodes+1), api.ErrRenderLarge)
	}
	expectFault(t, list(each, when(op(api.ETrue), hole(of("none")))), state(api.MaxNodes), api.ErrRenderLarge)
	// All keys of a loop ahead of its first kid, though its kids are too many.
	twice := state(api.MaxNodes + 5)
	twice.List[0].List[api.MaxNodes+4] = whole(0)
	expectFault(t, list(loop(of("l"), v(1), elem("p"))), twice, api.ErrRenderKey)
	twice.List[0].List[api.MaxNodes+4] = null
	expectFault(t, list(loop(of("l"), v(1), elem("p"))), twice, api.ErrEvalType)
	twice.List[0].List[api.MaxNodes+4] = txt("0")
	expectFault(t, list(loop(of("l"), v(1), elem("p"))), twice, api.ErrRenderLarge)
}

// TestP16_2Long: a text of MaxStr bytes and of one more, by a plain and by a bound part, in each place.
func TestP16_2Long(t *testing.T) {
	for _, letter := range []string{"x", "é", "😀"} {
		full := strings.Repeat(letter, api.MaxStr/len(letter))
		for _, ahead := range []int{0, 1, 100, len(full)/len(letter) - 1} {
			rest := full[ahead*len(letter):]
			for _, more := range []string{"", "x", "é", "xyz"} {
				state := rec("ahead,rest,more", txt(full[:ahead*len(letter)]), txt(rest), txt(more))
				for _, ps := range [][]api.Part{
					{bound(of("ahead")), bound(of("rest")), bound(of("more"))}, {bound(of("ahead")), plain(rest), bound(of("more"))}, {bound(of("more")), bound(of("ahead")), plain(rest)}, {bound(of("ahead")), bound(of("more")), bound(of("rest"))}, {bound(of("ahead")), bound(str(rest)), bound(of("more")), bound(str("")), bound(op(api.ENull))},
				} {
					if more == "" {
						expectAsked(t, list(parts(ps...)), state)
						if fs, code := Render(list(parts(ps...)), state); code != api.OK || len(fs) != 1 || fs[0].Text != full {
							t.Errorf("%d: %d", ahead, code)
						}
					} else {
						expectFault(t, list(parts(ps...)), state, api.ErrEvalLong)
						expectFault(t, list(elem("p", text(full), parts(ps...))), state, api.ErrEvalLong)
					}
				}
				if more != "" && ahead > 0 {
					expectFault(t, list(parts(plain(full[:ahead*len(letter)]), bound(of("rest")), plain(more))), state, api.ErrEvalLong)
				}
			}
		}
		// Each text is as long as it may be by itself.
		expect(t, list(text(full), parts(bound(v(0))), text(full)), txt(full), full+"|"+full+"|"+full)
		// A value of an attribute too.
		fs, code := Render(list(fields(elem("p"), plainField("a", full), boundField("b", v(0)), boundField("c", str(full)))), txt(full))
		if code != api.OK || len(fs) != 1 || len(fs[0].Attrs) != 3 || fs[0].Attrs[0].Value != full || fs[0].Attrs[1].Value != full || fs[0].Attrs[2].Value != full {
			t.Errorf("%d", code)
		}
	}
	// Many short parts.
	ten := slices.Repeat([]api.Part{bound(of("s"))}, 8)
	half := strings.Repeat("x", api.MaxStr/8)
	expect(t, list(parts(ten...)), rec("s", txt(half)), strings.Repeat("x", api.MaxStr))
	expectFault(t, list(parts(append(ten, plain("x"))...)), rec("s", txt(half)), api.ErrEvalLong)
	expectFault(t, list(parts(ten...)), rec("s", txt(half+"x")), api.ErrEvalLong)
}

// TestP16_2Stack: as many values on the stack as may be; the first, the last, and the one behind it.
func TestP16_2Stack(t *testing.T) {
	var es []api.Expr
	for i := range api.MaxStack - 1 {
		es = append(es, num(i+1))
	}
	expect(t, list(with(es, hole(v(0)), hole(v(1)), hole(v(32)), hole(v(api.MaxStack-1)))), txt("s"), "s|1|32|63")
	expectFault(t, list(with(es, hole(v(api.MaxStack)))), txt("s"), api.ErrCoreName)
	expectFault(t, list(with(append(es, num(1)), hole(v(0)))), txt("s"), api.ErrCoreDeep)
	// One by one, and by halves.
	c := parts(bound(v(0)), bound(v(1)), bound(v(api.MaxStack-1)))
	for _, e := range slices.Backward(es) {
		c = with(exprs(e), c)
	}
	expect(t, list(c), txt("s"), "s163")
	expect(t, list(with(es[:31], with(es[31:], parts(bound(v(31)), plain("-"), bound(v(32)), plain("-"), bound(v(63)))), hole(v(31)))), null, "31-32-63|31")
	// As many loops in one another as may be, with what lies above them.
	inner := with(exprs(v(16)), parts(bound(v(1)), bound(v(3)), bound(v(15)), bound(v(16)), bound(v(17))))
	for i := range api.MaxLoops {
		inner = loop(v(0), v(2*(api.MaxLoops-i)-1), elem("p", inner))
	}
	expect(t, list(inner), row(whole(7)), strings.Repeat("<p>", 8)+"77700"+strings.Repeat("</p>", 8))
	// Behind a node the stack is as it was, whatever lay there.
	expect(t, list(with(exprs(num(1), num(2)), text("x")), with(exprs(num(3)), hole(v(1))), loop(v(0), v(1), elem("p", with(exprs(v(1), v(2)), hole(v(4))), hole(v(2)), with(exprs(num(9)), hole(v(3)))))), row(txt("a"), txt("b")), "x|3<p>0|0|9</p><p>1|1|9</p>")
}

// TestP16_2Deep: nodes in one another as deep as may be.
func TestP16_2Deep(t *testing.T) {
	const most = 2*api.MaxNest - 1
	for _, c := range list(text("x"), hole(v(0)), when(op(api.ETrue), text("x"), text("x"))) {
		expectAsked(t, list(nested(most, c)), txt("x"))
		fs, code := Render(list(nested(most, c)), txt("x"))
		if code != api.OK || forest.Depth(fs) != most+1 {
			t.Errorf("%d, %d", code, forest.Depth(fs))
		}
		expectFault(t, list(nested(most+1, c)), txt("x"), api.ErrCoreDeep)
	}
	// What is no node may lie as deep as there are pieces.
	bare, tests := with(nil, elem("p")), text("x")
	for range api.MaxCore - 2 {
		bare = with(nil, bare)
	}
	expect(t, list(bare), null, "<p></p>")
	for i := range (api.MaxCore - 2) / 3 {
		if i%2 == 0 {
			tests = when(v(0), tests)
		} else {
			tests = otherwise(when(op(api.EFalse)), tests)
		}
	}
	expect(t, list(tests), truth(true), "x")
}

// TestP16_2LongExprs: an expression of 2 MaxExpr nodes at each Kind, and one more.
func TestP16_2LongExprs(t *testing.T) {
	state := rec("b,l", truth(true), row(whole(1), whole(2)))
	for _, n := range []int{2*api.MaxExpr - 1, 2 * api.MaxExpr, 2*api.MaxExpr + 1} {
		// A bool fits in all places but those of a list and of a key.
		flips := op(api.ETrue)
		for range n - 1 {
			flips = op(api.ENot, flips)
		}
		for place, c := range homes(flips) {
			want := api.OK
			switch {
			case n > 2*api.MaxExpr:
				want = api.ErrCoreExpr
			case place == "list" || place == "key":
				want = api.ErrEvalType
			}
			if got := expectAsked(t, list(c), state); got != want {
				t.Errorf("%s, %d nodes: %d, want %d", place, n, got, want)
			}
		}
	}
	// A list, and a key that is a number, of as many nodes.
	items, key := of("l"), v(2)
	for range api.MaxExpr/2 - 1 {
		items = op(api.EIf, of("b"), items, num(1))
	}
	for range api.MaxExpr - 1 {
		key = op(api.EAdd, key, num(1))
	}
	expect(t, list(loop(items, key, elem("b"))), state, "<b></b><b></b>")
	expect(t, list(loop(items, op(api.ENeg, key), elem("b", hole(key)))), state, "<b>511</b><b>512</b>")
	expectFault(t, list(loop(items, op(api.ENeg, op(api.ENeg, key)), elem("b"))), state, api.ErrCoreExpr)
}
