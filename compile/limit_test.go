package compile

import (
	"slices"
	"strconv"
	"strings"
	"testing"

	"stencil/api"
	"stencil/core"
)

// chain is an expression of so many nodes, one in the other.
func chain(n int) api.Expr {
	e := x("p0")
	for range n - 1 {
		e = api.Expr{Op: api.ENot, Kids: []api.Expr{e}}
	}
	return e
}

// bush is an expression of so many nodes, with as many sides as it can have; it comes to 1.
func bush(n int) api.Expr {
	switch n {
	case 1:
		return x("1")
	case 2:
		return api.Expr{Op: api.ECall, Int: api.CallU8, Kids: xs("1")}
	case 3:
		return x("0 + 1")
	case 4:
		return x("true ? 1 : 0")
	}
	side := (n - 2) / 2
	return api.Expr{Op: api.EIf, Kids: []api.Expr{x("true"), bush(side), bush(n - 2 - side)}}
}

// both is as much code for so few nodes as can be: a test of many.
func both(n int) api.Expr {
	e := x("true")
	for range n {
		e = api.Expr{Op: api.EBoth, Kids: []api.Expr{e, x("true")}}
	}
	return e
}

// holding is a text that shows what e comes to.
func holding(e api.Expr) api.Core { return parts(api.Part{Bound: true, Expr: e}) }

// nested is a node in so many others.
func nested(n int, c api.Core, around func(c api.Core) api.Core) api.Core {
	for range n {
		c = around(c)
	}
	return c
}

func inElement(c api.Core) api.Core { return elem("p", c) }

// deepest are cores in which nodes lie as deep in others, and as many values on the stack, as may be.
func deepest() map[string][]api.Core {
	loops := func(n int, c api.Core) api.Core {
		for i := range n {
			c = loop("p0", "p"+strconv.Itoa(2*(n-i)-1), elem("b", c))
		}
		return c
	}
	stack := func(n int, c api.Core) api.Core {
		return nested(n, c, func(c api.Core) api.Core { return with([]string{"p0"}, c) })
	}
	mixed := text("x")
	for i := range 8 {
		mixed = elem("p", nested(6, otherwise(when("true"), with([]string{"1", "2"}, loop("p0", "p0", elem("p", mixed)))), inElement))
		if i == 7 {
			mixed = mixed.Kids[0].Kids[0]
		}
	}
	return map[string][]api.Core{
		"withs":             list(nested(api.MaxCore-1, elem("p"), func(c api.Core) api.Core { return with(nil, c) })),
		"withs of nothing":  list(nested(api.MaxCore-1, with(nil), func(c api.Core) api.Core { return with(nil, c) })),
		"ifs":               list(nested((api.MaxCore-2)/3, text("x"), func(c api.Core) api.Core { return when("true", c) })),
		"elses":             list(nested((api.MaxCore-2)/3, text("x"), func(c api.Core) api.Core { return otherwise(when("false"), c) })),
		"a static":          list(nested(2*api.MaxNest-1, text("x"), inElement)),
		"a static of tags":  list(nested(2*api.MaxNest-1, elem("b"), inElement).Kids[0]),
		"a static in many":  list(nested(2*api.MaxNest-3, elem("q", show("p0"), elem("b", text("x"))), inElement)),
		"a static in ifs":   list(nested(2*api.MaxNest-2, elem("b", text("x")), func(c api.Core) api.Core { return when("true", elem("p", c)) })),
		"a text":            list(nested(2*api.MaxNest-1, show("p0"), inElement)),
		"a text in withs":   list(nested(2*api.MaxNest-1, show("p0"), func(c api.Core) api.Core { return with(nil, elem("p", c)) })),
		"loops":             list(loops(api.MaxLoops, show("p16"))),
		"loops in elements": list(nested(2*api.MaxNest-1-api.MaxLoops, loops(api.MaxLoops, show("p16")), inElement)),
		"loops of a static": list(loops(api.MaxLoops, text("x"))),
		"mixed":             list(mixed),
		"one wide with":     list(with(slices.Repeat([]string{"p0"}, api.MaxStack-1), show("p63"))),
		"stack":             list(stack(api.MaxStack-1, fields(elem("p", when("p63 == p63", show("p63"))), boundAttr("a", "p63")))),
		"stack of a loop":   list(stack(api.MaxStack-3, loop("p61", "p63", elem("p", show("p63"))))),
		"empty wide with":   list(with(slices.Repeat([]string{"p0"}, api.MaxStack-1))),
	}
}

// widest are cores of as many pieces as may be, of each sort.
func widest() map[string][]api.Core {
	var names, bounds []api.Field
	for i := range api.MaxCore - 1 {
		names = append(names, attr("a"+strconv.Itoa(10000+i), "v"+strconv.Itoa(i)))
	}
	for i := range (api.MaxCore - 1) / 2 {
		bounds = append(bounds, boundAttr("a"+strconv.Itoa(10000+i), "'"+strconv.Itoa(i)+"'"))
	}
	var ends, row, tests []api.Part
	for range (api.MaxCore - 1) / 3 {
		row = append(row, bound("p0"), plain("y"))
	}
	for range (api.MaxCore - 1) / 2 {
		ends = append(ends, bound("1"))
	}
	for range (api.MaxCore - 1) / 7 {
		tests = append(tests, plain("t"), bound("true && 1 == 1"))
	}
	long := strings.Repeat("x", api.MaxStr)
	sixty := slices.Repeat([]string{"p0"}, api.MaxStack-1)
	return map[string][]api.Core{
		"elements":         times(api.MaxCore, elem("p")),
		"one of elements":  list(elem("p", times(api.MaxCore-1, elem("p"))...)),
		"of one that is":   append(list(show("p0")), elem("p", times(api.MaxCore-4, elem("p"))...)),
		"texts":            times(api.MaxCore/2, text("x")),
		"long texts":       times(api.MaxCore/2, text(long)),
		"shown":            times(api.MaxCore/3, show("p0")),
		"attributes":       list(fields(elem("p"), names...)),
		"one attribute":    times(api.MaxCore/2, fields(elem("p"), attr("a", long))),
		"bound attributes": list(fields(elem("p"), bounds...)),
		"a row of parts":   list(parts(row...)),
		"bound parts":      list(parts(ends...)),
		"tests in parts":   list(parts(tests...)),
		"long code":        list(parts(slices.Repeat([]api.Part{{Bound: true, Expr: both(511)}}, 3)...), holding(both(510))),
		"long expressions": list(parts(slices.Repeat([]api.Part{{Bound: true, Expr: bush(1024)}}, 3)...), holding(bush(1000))),
		"long chains":      times(3, when("true", holding(chain(1024)))),
		"ifs":              times(api.MaxCore/3, when("true")),
		"ifs and elses":    times(api.MaxCore/5, otherwise(when("true", elem("b")), elem("i"))),
		"loops":            times(api.MaxCore/6, loop("p0", "p1", elem("p"))),
		"loops of shown":   times(api.MaxCore/9, loop("p0", "p1", elem("p", show("p1")))),
		"withs":            times(api.MaxCore, with(nil)),
		"withs of statics": times(api.MaxCore/2, with(nil, elem("p"))),
		"withs of one":     times(api.MaxCore/3, with([]string{"p0"})),
		"withs of sixty":   times(api.MaxCore/127, with(sixty)),
	}
}

// TestP24_1Fits: what core.Check takes at its edges gives programs that verify.Verify takes.
func TestP24_1Fits(t *testing.T) {
	t.Parallel()
	for name, cs := range deepest() {
		if core.Check(cs) != api.OK {
			t.Fatal(name)
		}
		expectForms(t, cs)
	}
	for name, cs := range widest() {
		if core.Check(cs) != api.OK {
			t.Fatal(name)
		}
		expectForms(t, cs)
	}
}

// TestP24_1FitsMost: as many operations, statics and values on the stack as a program may have.
func TestP24_1FitsMost(t *testing.T) {
	wide := widest()
	if p := expectForm(t, wide["elements"], options("")); len(p.Blocks[0].Ops) != api.MaxOps || len(p.Blocks[0].Update) != api.MaxOps {
		t.Error(len(p.Blocks[0].Ops))
	}
	if p := expectForm(t, wide["elements"], options("H")); len(p.Statics) != api.MaxStatics {
		t.Error(len(p.Statics))
	}
	if p := expectForm(t, wide["attributes"], options("")); len(p.Texts) != 2*api.MaxCore-1 {
		t.Error(len(p.Texts))
	}
	if p := expectForm(t, wide["withs"], options("")); len(p.Blocks) != api.MaxCore+1 {
		t.Error(len(p.Blocks))
	}
	if p := expectForm(t, deepest()["stack"], options("FI")); p.Blocks[1].Depth != api.MaxStack {
		t.Error(p.Blocks[1].Depth)
	}
}

// TestP24_1RunsAtLimits: the machines of such cores beside the models, with states of some elements and of none.
func TestP24_1RunsAtLimits(t *testing.T) {
	t.Parallel()
	states := []api.Value{datum(t, `[7]`), datum(t, `[]`), datum(t, `"s"`), datum(t, `null`), datum(t, `[8, 7]`), datum(t, `true`), datum(t, `[7, 7]`)}
	met := map[api.Errno]int{}
	for _, cores := range []map[string][]api.Core{deepest(), widest()} {
		for _, cs := range cores {
			w := newTwins(t, cs, api.MaxNodes+1)
			for i, v := range states {
				met[w.take(t, v)]++
				if i == 3 && w.mounted {
					w.unmount(t)
				}
			}
		}
	}
	for _, code := range []api.Errno{api.OK, api.ErrEvalType, api.ErrVmKey} {
		if met[code] < 3 {
			t.Errorf("few of %d: %v", code, met)
		}
	}
}

// numbers is a list of so many.
func numbers(from, count int) string {
	var out []string
	for i := range count {
		out = append(out, strconv.Itoa(from+i))
	}
	return "[" + strings.Join(out, ",") + "]"
}

// TestP24_1Large: as many nodes as may be, and more, which is asked ahead of all else of a node: behind errors ahead of it, ahead of its own and of those behind it.
func TestP24_1Large(t *testing.T) {
	t.Parallel()
	met := map[api.Errno]int{}
	two := elem("b", text("x"))
	for _, row := range []struct {
		inside api.Core
		size   int
		behind api.Core
	}{
		{elem("b"), 1, show("p0.z")}, {two, 2, show("p0.z")}, {elem("p", show("p1")), 2, fields(elem("p"), boundAttr("a", "p0.z"))}, {elem("p", two, two, show("p1")), 6, elem("p", show("p0.z"))}, {elem("p", with([]string{"p1"}, elem("i", show("p3")))), 3, with([]string{"p0.z"}, text("x"))}, {elem("p", otherwise(when("p1 < 0", text("y")), two)), 3, when("p0.z")},
	} {
		cs := list(loop("p0.l", "p1", row.inside), elem("i", loop("p0.m", "p1", elem("b"))), loop("p0.n", "p1", elem("p", loop("p0.n", "p3", two))), row.behind)
		w := newTwins(t, cs, api.MaxNodes+1)
		most := (api.MaxNodes - 1) / row.size
		left := api.MaxNodes - 1 - most*row.size
		for _, n := range [][3]int{{3, 2, 1}, {most, left, 0}, {most + 1, left, 0}, {most, left + 1, 0}, {most - 1, left, 1}, {5, 5, 60}, {most, left, 1}} {
			for _, z := range []string{"", `, "z": null`, `, "z": true`, `, "z": []`} {
				v := datum(t, `{"l": `+numbers(0, n[0])+`, "m": `+numbers(0, n[1])+`, "n": `+numbers(0, n[2])+z+`}`)
				met[w.take(t, v)]++
			}
		}
	}
	expectCodes(t, met, 3, api.OK, api.ErrVmLarge, api.ErrEvalPath, api.ErrEvalType)
}

// TestP24_1Rooms: of each room and each state the codes, up to the room in which all fit.
func TestP24_1Rooms(t *testing.T) {
	t.Parallel()
	met := map[api.Errno]int{}
	cs := list(text("a"), loop("p0.l", "p1", elem("b", show("p1"))), elem("i", elem("u"), text("x")), with([]string{"p0.l"}, when("len(p1) == 2", elem("s"))))
	for room := 1; room < 16; room++ {
		w := newTwins(t, cs, room)
		for _, list := range append(arrangements(3), "0, 0", "null") {
			v := datum(t, `{"l": [`+list+`]}`)
			met[w.take(t, v)]++
			if list == "1" {
				met[w.mount(t, v)]++
				met[w.unmount(t)]++
				met[w.update(t, v)]++
				met[w.mount(t, v)]++
			}
		}
	}
	expectCodes(t, met, 10, api.OK, api.ErrVmFull, api.ErrVmKey, api.ErrVmMounted, api.ErrVmBare, api.ErrEvalType)
}
