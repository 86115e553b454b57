package compile

import (
	"fmt"
	"reflect"
	"slices"
	"strings"
	"testing"

	"stencil/api"
	"stencil/core"
	"stencil/forest"
	"stencil/verify"
)

// said is a program's operations, block by block, with names for numbers; of a code it is told where it is asked alone.
func said(p api.Program) string {
	var out strings.Builder
	for number, block := range p.Blocks {
		fmt.Fprintf(&out, "%d/%d:", number, block.Depth)
		for _, op := range block.Ops {
			out.WriteString(" " + saidOp(p, op))
		}
		fmt.Fprintf(&out, " %v\n", block.Update)
	}
	return out.String()
}

func saidOp(p api.Program, op api.Op) string {
	switch op.Kind {
	case api.OpText:
		return fmt.Sprintf("%q", p.Texts[op.A])
	case api.OpTextX:
		return "{}"
	case api.OpOpen:
		return "<" + p.Texts[op.A]
	case api.OpAttr:
		return p.Texts[op.A] + "=" + p.Texts[op.B]
	case api.OpAttrX:
		return p.Texts[op.A] + "={}"
	case api.OpClose:
		return ">"
	case api.OpStatic:
		page, _ := forest.Html([]api.Tree{p.Statics[op.A]})
		return page
	case api.OpIf:
		return fmt.Sprintf("if(%d,%d)", op.B, op.C)
	case api.OpFor:
		return fmt.Sprintf("for(%d)", op.C)
	case api.OpWith:
		return fmt.Sprintf("with(%d,%d)", len(op.List), op.C)
	case api.OpLet:
		return "let"
	}
	return fmt.Sprintf("drop(%d)", op.A)
}

// options are those of letters such as HFI.
func options(letters string) api.Options {
	return api.Options{Hoist: strings.Contains(letters, "H"), Flags: strings.Contains(letters, "F"), Inline: strings.Contains(letters, "I")}
}

// TestP24_1Table: the two rows of the document.
func TestP24_1Table(t *testing.T) {
	cs := template(t, `<p class="a">x</p>{{ y }}`)
	p := expectForm(t, cs, options("HFI"))
	want := api.Program{
		Texts: []string{"y"}, Codes: [][]api.Inst{{{Op: api.IVar}, {Op: api.IField}}},
		Statics: []api.Tree{{Tag: "p", Attrs: []api.Attr{{Name: "class", Value: "a"}}, Kids: []api.Tree{{Text: "x"}}}},
		Blocks:  []api.Block{{Depth: 1, Ops: []api.Op{{Kind: api.OpStatic}, {Kind: api.OpTextX}}, Update: []int{1}}},
	}
	if !reflect.DeepEqual(p, want) {
		t.Errorf("%+v", p)
	}
	p = expectForm(t, cs, options(""))
	want = api.Program{
		Texts: []string{"p", "class", "a", "x", "y"}, Codes: [][]api.Inst{{{Op: api.IVar}, {Op: api.IField, A: 4}}},
		Blocks: []api.Block{{Depth: 1, Ops: []api.Op{{Kind: api.OpOpen}, {Kind: api.OpAttr, A: 1, B: 2}, {Kind: api.OpText, A: 3}, {Kind: api.OpClose}, {Kind: api.OpTextX}}, Update: []int{0, 1, 2, 3, 4}}},
	}
	if !reflect.DeepEqual(p, want) {
		t.Errorf("%+v", p)
	}
}

// TestP24_1Kinds: what each kind of node is compiled to, by itself and in others, as the options have it.
func TestP24_1Kinds(t *testing.T) {
	still := fields(elem("p", text("x"), elem("b")), attr("a", ""), attr("b", "y"))
	row := fields(elem("q", show("p1.v"), still), attr("a", "1"), boundAttr("b", "p2"))
	for _, one := range []struct {
		cs       []api.Core
		settings string
		want     string
	}{
		{nil, ",H,F,I,HF,HI,FI,HFI", "0/1: []\n"},
		{list(text("x"), text("y")), ",H,I,HI", "0/1: \"x\" \"y\" [0 1]\n"},
		{list(text("x"), text("y")), "F,HF,FI,HFI", "0/1: \"x\" \"y\" []\n"},
		{list(show("p0"), parts(plain("a"), bound("p0"))), ",H,F,I,HF,HI,FI,HFI", "0/1: {} {} [0 1]\n"},
		{list(still), ",I", "0/1: <p a= b=y \"x\" <b > > [0 1 2 3 4 5 6]\n"},
		{list(still), "F,FI", "0/1: <p a= b=y \"x\" <b > > []\n"},
		{list(still), "H,HI", "0/1: <p a=\"\" b=\"y\">x<b></b></p> [0]\n"},
		{list(still), "HF,HFI", "0/1: <p a=\"\" b=\"y\">x<b></b></p> []\n"},
		{list(elem("u", still, show("p0"), still)), "H,HI", "0/1: <u <p a=\"\" b=\"y\">x<b></b></p> {} <p a=\"\" b=\"y\">x<b></b></p> > [0 1 2 3 4]\n"},
		{list(elem("u", still, show("p0"), still)), "HF,HFI", "0/1: <u <p a=\"\" b=\"y\">x<b></b></p> {} <p a=\"\" b=\"y\">x<b></b></p> > [2]\n"},
		{list(fields(elem("p"), attr("a", "1"), boundAttr("b", "p0"), attr("c", "2"), boundAttr("d", "1"))), "H,,I,HI", "0/1: <p a=1 b={} c=2 d={} > [0 1 2 3 4 5]\n"},
		{list(fields(elem("p"), attr("a", "1"), boundAttr("b", "p0"), attr("c", "2"), boundAttr("d", "1"))), "HF,F,HFI,FI", "0/1: <p a=1 b={} c=2 d={} > [2 4]\n"},
		{list(when("true")), "F,HF,,HI", "0/1: if(0,0) [0]\n"},
		{list(when("true", text("x")), otherwise(when("false"), text("y"))), "F,FI,HF,HFI", "0/1: if(1,0) if(0,2) [0 1]\n1/1: \"x\" []\n2/1: \"y\" []\n"},
		{list(otherwise(when("true", show("p0"), when("true", show("p0"))), show("p0"))), ",H,F,I,HF,HI,FI,HFI", "0/1: if(1,3) [0]\n1/1: {} if(2,0) [0 1]\n2/1: {} [0]\n3/1: {} [0]\n"},
		{list(loop("p0", "p1", elem("b"))), "", "0/1: for(1) [0]\n1/3: <b > [0 1]\n"},
		{list(loop("p0", "p1", elem("b"))), "H", "0/1: for(1) [0]\n1/3: <b></b> [0]\n"},
		{list(loop("p0", "p1", elem("b"))), "HF,HFI", "0/1: for(1) [0]\n1/3: <b></b> []\n"},
		{list(loop("p0", "p1", row)), "I", "0/1: for(1) [0]\n1/3: <q a=1 b={} {} <p a= b=y \"x\" <b > > > [0 1 2 3 4 5 6 7 8 9 10 11]\n"},
		{list(loop("p0", "p1", row)), "HF", "0/1: for(1) [0]\n1/3: <q a=1 b={} {} <p a=\"\" b=\"y\">x<b></b></p> > [2 3]\n"},
		{list(loop("p0", "p1", elem("b", loop("p1", "p3", elem("i", show("p4")))))), "F", "0/1: for(1) [0]\n1/3: <b for(2) > [1]\n2/5: <i {} > [1]\n"},
		{list(with(nil)), ",H,F,HF", "0/1: with(0,1) [0]\n1/1: []\n"},
		{list(with(nil)), "I,HI,FI,HFI", "0/1: []\n"},
		{list(with([]string{"p0", "1"})), ",F,H", "0/1: with(2,1) [0]\n1/3: []\n"},
		{list(with([]string{"p0", "1"})), "I", "0/1: let let drop(2) [0 1 2]\n"},
		{list(with([]string{"p0", "1"})), "FI,HFI", "0/1: let let drop(2) []\n"},
		{list(text("x"), with([]string{"p0"}, show("p1"), with(nil, show("p1"), with([]string{"p1", "2"}, show("p3")))), text("y")), "F", "0/1: \"x\" with(1,1) \"y\" [1]\n1/2: {} with(0,2) [0 1]\n2/2: {} with(2,3) [0 1]\n3/4: {} [0]\n"},
		{list(text("x"), with([]string{"p0"}, show("p1"), with(nil, show("p1"), with([]string{"p1", "2"}, show("p3")))), text("y")), "FI", "0/1: \"x\" let {} {} let let {} drop(2) drop(1) \"y\" [2 3 6]\n"},
		{list(with([]string{"p0"}, elem("p", with([]string{"1"}, when("true", show("p2")))))), "I", "0/1: let <p let if(1,0) drop(1) > drop(1) [0 1 2 3 4 5 6]\n1/3: {} [0]\n"},
		{list(with([]string{"p0"}, loop("p1", "p3", elem("p", with([]string{"p3"}, elem("b")))))), "HFI", "0/1: let for(1) drop(1) [1]\n1/4: <p let <b></b> drop(1) > []\n"},
		{list(with([]string{"p0"}, loop("p1", "p3", elem("p", with([]string{"p3"}, elem("b")))))), "HF", "0/1: with(1,1) [0]\n1/2: for(2) [0]\n2/4: <p with(1,3) > [1]\n3/5: <b></b> []\n"},
	} {
		for _, letters := range strings.Split(one.settings, ",") {
			if got := said(expectForm(t, one.cs, options(letters))); got != one.want {
				t.Errorf("%s: %s: %s\nwant\n%s", letters, cut(one.cs), got, one.want)
			}
		}
	}
}

// TestP24_1Statics: which elements are hoisted, wherever they stand: their numbers go on behind what was hoisted, and behind ifs with an else.
func TestP24_1Statics(t *testing.T) {
	b, still := elem("b"), fields(elem("p", text("x"), elem("i", text("y"))), attr("c", "z"))
	for page, cs := range map[string][]api.Core{
		"":                         list(text("x"), show("p0"), elem("p", show("p0"))),
		"<b></b><b></b><b></b>":    list(b, b, b),
		"<b></b><b></b>":           list(elem("p", b, show("p0"), b)),
		"<b></b>|if else":          list(otherwise(when("true", show("p0"), show("p0")), elem("u", show("p0")), elem("u", b, when("true")))),
		"<p>3|p":                   list(still, show("p0"), still, when("true", text("x"), still)),
		"<b></b><b></b>|loops":     list(loop("p0", "p1", b), loop("p0", "p1", elem("q", loop("p0", "p3", b), show("p0")))),
		"<b></b><b></b>|with":      list(with([]string{"1"}, b, with(nil, show("p1"), b))),
		"<b></b>|empty":            list(elem("p", when("true")), elem("p", with(nil)), elem("p", loop("p0", "p1", fields(elem("p"), boundAttr("a", "1")))), b),
		"<b></b>|bound":            list(fields(elem("p", text("x")), boundAttr("a", "'x'")), elem("p", parts(plain("x"), bound("1"))), b),
		"<b></b><b></b>|two elses": list(otherwise(when("true", b), show("p0")), otherwise(when("true", show("p0")), b)),
	} {
		p := expectForm(t, cs, options("H"))
		if len(p.Statics) != len(core.Statics(cs)) {
			t.Errorf("%s: %d statics, want %d", page, len(p.Statics), len(core.Statics(cs)))
		}
		expectForms(t, cs)
	}
}

// TestP24_1Owned: no piece of a program is there that no operation names, and no text stands in it twice.
func TestP24_1Owned(t *testing.T) {
	m := newMaker(240)
	for range 300 {
		cs := m.whole(4)
		for _, o := range settings() {
			p := expectForm(t, cs, o)
			texts, codes, statics := map[int]int{}, map[int]int{}, map[int]int{}
			for _, block := range p.Blocks {
				for _, op := range block.Ops {
					switch op.Kind {
					case api.OpAttr:
						texts[op.B]++
						fallthrough
					case api.OpText, api.OpOpen:
						texts[op.A]++
					case api.OpAttrX:
						texts[op.A]++
						codes[op.B]++
					case api.OpFor:
						codes[op.B]++
						fallthrough
					case api.OpTextX, api.OpIf, api.OpLet:
						codes[op.A]++
					case api.OpWith:
						for _, number := range op.List {
							codes[number]++
						}
					case api.OpStatic:
						statics[op.A]++
					}
				}
			}
			for _, insts := range p.Codes {
				for _, inst := range insts {
					if inst.Op == api.IStr || inst.Op == api.IField {
						texts[inst.A]++
					}
				}
			}
			if len(texts) != len(p.Texts) || len(codes) != len(p.Codes) || len(statics) != len(p.Statics) {
				t.Fatalf("%+v: %s: %s", o, cut(cs), cut(p))
			}
			sorted := slices.Sorted(slices.Values(p.Texts))
			if len(slices.Compact(sorted)) != len(p.Texts) {
				t.Fatalf("%+v: %s: %q", o, cut(cs), p.Texts)
			}
		}
	}
}

// wrongCores are such as core.Check does not take, each with its error.
func wrongCores() []struct {
	cs    []api.Core
	fault api.Errno
} {
	open := func(n int, c api.Core) api.Core {
		for range n {
			c = elem("p", c)
		}
		return c
	}
	loops := func(n int) api.Core {
		c := elem("p")
		for range n {
			c = elem("p", loop("p0", "p0", c))
		}
		return c
	}
	ones := func(n int) []string { return slices.Repeat([]string{"1"}, n) }
	return []struct {
		cs    []api.Core
		fault api.Errno
	}{
		{list(api.Core{}), api.ErrCoreForm}, {list(api.Core{Kind: 6}), api.ErrCoreForm}, {list(api.Core{Kind: -1}), api.ErrCoreForm}, {list(text("x"), parts()), api.ErrCoreForm}, {list(text("")), api.ErrCoreForm}, {list(text("\xff")), api.ErrCoreForm},
		{list(text(strings.Repeat("x", api.MaxStr+1))), api.ErrCoreForm}, {list(parts(plain("x"), plain("y"))), api.ErrCoreForm}, {list(parts(api.Part{Bound: true, Plain: "x", Expr: x("p0")})), api.ErrCoreForm},
		{list(elem("")), api.ErrCoreForm}, {list(elem("P")), api.ErrCoreForm}, {list(elem("p", elem("p", elem("a_b")))), api.ErrCoreForm}, {list(fields(elem("p"), attr("b", ""), attr("a", ""))), api.ErrCoreForm}, {list(fields(elem("p"), attr("a", ""), boundAttr("a", "1"))), api.ErrCoreForm}, {list(fields(elem("p"), attr("A", ""))), api.ErrCoreForm}, {list(fields(elem("p"), attr("a", "\xff"))), api.ErrCoreForm}, {list(fields(elem("p"), api.Field{Name: "a", At: 1})), api.ErrCoreForm},
		{list(api.Core{Kind: api.CIf}), api.ErrCoreForm}, {list(api.Core{Kind: api.CIf, Exprs: xs("1", "2")}), api.ErrCoreForm}, {list(otherwise(with(nil), text("x"))), api.ErrCoreForm}, {list(loop("p0", "p1", text("x"))), api.ErrCoreForm}, {list(api.Core{Kind: api.CFor, Exprs: xs("p0", "p1")}), api.ErrCoreForm}, {list(api.Core{Kind: api.CFor, Exprs: xs("p0"), Kids: list(elem("p"))}), api.ErrCoreForm}, {list(api.Core{Kind: api.CText, Parts: []api.Part{plain("x")}, Kids: list(text("y"))}), api.ErrCoreForm},
		{list(parts(api.Part{Bound: true})), api.ErrCoreExpr}, {list(api.Core{Kind: api.CIf, Exprs: []api.Expr{{Op: 32}}}), api.ErrCoreExpr}, {list(parts(api.Part{Bound: true, Expr: api.Expr{Op: api.EVar, Str: "a"}})), api.ErrCoreExpr}, {list(parts(api.Part{Bound: true, Expr: api.Expr{Op: api.EInt, Int: -1}})), api.ErrCoreExpr}, {list(parts(api.Part{Bound: true, Expr: api.Expr{Op: api.EAdd, Kids: xs("1")}})), api.ErrCoreExpr}, {list(parts(api.Part{Bound: true, Expr: chain(2*api.MaxExpr + 1)})), api.ErrCoreExpr},
		{list(show("p1")), api.ErrCoreName}, {list(fields(elem("p"), boundAttr("a", "p1"))), api.ErrCoreName}, {list(when("p1")), api.ErrCoreName}, {list(loop("p1", "p1", elem("p"))), api.ErrCoreName}, {list(loop("p0", "p3", elem("p"))), api.ErrCoreName}, {list(with([]string{"1", "p1"})), api.ErrCoreName}, {list(with([]string{"1"}, text("x")), show("p1")), api.ErrCoreName}, {list(loop("p0", "p1", elem("p", show("p3")))), api.ErrCoreName}, {list(parts(api.Part{Bound: true, Expr: api.Expr{Op: api.EVar, Int: -1}})), api.ErrCoreName},
		{list(open(64, text("x"))), api.ErrCoreDeep}, {list(with(ones(64))), api.ErrCoreDeep}, {list(with(ones(62), loop("p0", "p1", elem("p")))), api.ErrCoreDeep}, {list(loops(9)), api.ErrCoreDeep},
		{times(api.MaxCore+1, elem("p")), api.ErrCoreLarge}, {list(elem("q", times(api.MaxCore, elem("p"))...)), api.ErrCoreLarge}, {append(times(api.MaxCore-1, elem("p")), text("x")), api.ErrCoreLarge},
		// Several are wrong at once: the first node's, and of one node the first in the row.
		{list(show("p1"), elem("P")), api.ErrCoreName}, {list(elem("P", show("p1"))), api.ErrCoreForm}, {list(elem("p", parts(api.Part{Bound: true})), text("")), api.ErrCoreExpr}, {list(with([]string{"p1", "p0"}, api.Core{})), api.ErrCoreName}, {list(fields(elem("P"), boundAttr("a", "p1"))), api.ErrCoreForm}, {list(api.Core{Kind: api.CWith, Exprs: append(xs("p1"), api.Expr{})}), api.ErrCoreExpr}, {list(with(append(ones(63), "p9"), text(""))), api.ErrCoreDeep}, {list(otherwise(when("true", show("p1")), text(""))), api.ErrCoreName}, {append(times(api.MaxCore, elem("p")), elem("P")), api.ErrCoreLarge}, {append(list(elem("P")), times(api.MaxCore, elem("p"))...), api.ErrCoreForm},
	}
}

// TestP24_1Errors: core.Check's error, and no program beside it.
func TestP24_1Errors(t *testing.T) {
	for _, one := range wrongCores() {
		if got := core.Check(one.cs); got != one.fault {
			t.Errorf("core.Check: %d, want %d: %s", got, one.fault, cut(one.cs))
		}
		for _, o := range settings() {
			p, fault := Compile(one.cs, o)
			if fault != one.fault || !reflect.DeepEqual(p, api.Program{}) {
				t.Errorf("%+v: %d, want %d: %s: %s", o, fault, one.fault, cut(one.cs), cut(p))
			}
			if _, _, fault := verify.Verify(p); fault == api.OK {
				t.Errorf("%+v: it may be run: %s", o, cut(one.cs))
			}
		}
	}
}
