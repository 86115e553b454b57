package fresh

import (
	"reflect"
	"testing"

	"stencil/api"
)

func TestValue(t *testing.T) {
	one := api.Value{Kind: api.KInt, Int: 1}
	made := func() api.Value {
		return api.Value{Kind: api.KList, List: []api.Value{
			one,
			{Kind: api.KRec, Names: []string{"a", "b"}, List: []api.Value{{Kind: api.KStr, Str: "s"}, {Kind: api.KList, List: []api.Value{one}}}},
			{Kind: api.KBool, Bool: true}, {Kind: api.KList}, {Kind: 9, Bool: true, Int: 1, Str: "\xff", Names: []string{"a"}, List: []api.Value{{}}},
		}}
	}
	v := made()
	got := Value(v)
	if !reflect.DeepEqual(got, made()) || !reflect.DeepEqual(v, made()) {
		t.Fatalf("%v", got)
	}
	got.List[0].Int = 2
	got.List[1].Names[0] = "c"
	got.List[1].List[1].List[0] = api.Value{}
	got.List[4].List[0].Kind = 3
	got.List[4].Names[0] = "c"
	if !reflect.DeepEqual(v, made()) {
		t.Error("the copy shares memory")
	}
	// One part twice is two parts of the copy.
	part := []api.Value{one}
	twice := Value(api.Value{Kind: api.KList, List: []api.Value{{Kind: api.KList, List: part}, {Kind: api.KList, List: part}}})
	twice.List[0].List[0].Int = 5
	if twice.List[1].List[0].Int != 1 || part[0].Int != 1 {
		t.Error("two lists of the copy share memory")
	}
}

func TestCores(t *testing.T) {
	made := func() []api.Core {
		hole := api.Expr{Op: api.EAdd, Kids: []api.Expr{{Op: api.EVar, Int: 2}, {Op: api.ENeg, Kids: []api.Expr{{Op: api.EStr, Str: "s"}}}}}
		text := api.Core{Kind: api.CText, Parts: []api.Part{{Plain: "x"}, {Bound: true, Expr: hole}}}
		elem := api.Core{Kind: api.CElem, Tag: "p", Fields: []api.Field{{Name: "a", Plain: "v", At: 7}, {Name: "b", Bound: true, Expr: hole}}, Kids: []api.Core{text}}
		return []api.Core{
			text, elem, {Kind: api.CIf, Exprs: []api.Expr{hole}, Kids: []api.Core{elem}, Else: []api.Core{text, elem}}, {},
			{Kind: api.CFor, Exprs: []api.Expr{hole, hole}, Kids: []api.Core{elem}}, {Kind: 9, Tag: "\xff", Kids: []api.Core{{Kind: api.CWith, Kids: []api.Core{text}}}},
		}
	}
	cs := made()
	got := Cores(cs)
	if !reflect.DeepEqual(got, made()) || !reflect.DeepEqual(cs, made()) {
		t.Fatalf("%v", got)
	}
	for _, spoil := range []func(cs []api.Core){
		func(cs []api.Core) { cs[0].Kind = 3 },
		func(cs []api.Core) { cs[0].Parts[0].Plain = "y" },
		func(cs []api.Core) { cs[0].Parts[1].Expr.Kids[1].Kids[0].Str = "y" },
		func(cs []api.Core) { cs[1].Fields[0].Plain = "y" },
		func(cs []api.Core) { cs[1].Fields[1].Expr.Kids[0].Int = 5 },
		func(cs []api.Core) { cs[1].Kids[0].Kind = 3 },
		func(cs []api.Core) { cs[2].Exprs[0].Op = 3 },
		func(cs []api.Core) { cs[2].Exprs[0].Kids[1].Op = 3 },
		func(cs []api.Core) { cs[2].Kids[0].Fields[1].Name = "y" },
		func(cs []api.Core) { cs[2].Else[1].Kids[0].Parts[0].Plain = "y" },
		func(cs []api.Core) { cs[5].Kids[0].Kids[0].Parts[1].Expr.Kids[0].Int = 5 },
	} {
		given := made()
		copied := Cores(given)
		spoil(copied)
		if !reflect.DeepEqual(given, made()) {
			t.Fatal("the copy shares memory")
		}
		copied = Cores(given)
		spoil(given)
		if !reflect.DeepEqual(copied, made()) {
			t.Fatal("the copy shares memory")
		}
	}
	if Cores(nil) != nil {
		t.Error("a copy of none")
	}
	// One part twice is two parts of the copy.
	twice := Cores([]api.Core{cs[1], cs[1]})
	twice[0].Kids[0].Parts[0].Plain = "y"
	if twice[1].Kids[0].Parts[0].Plain != "x" {
		t.Error("two nodes of the copy share memory")
	}
}

func TestProgram(t *testing.T) {
	made := func() api.Program {
		tree := api.Tree{Tag: "p", Attrs: []api.Attr{{Name: "a", Value: "v"}}, Kids: []api.Tree{{Tag: "q", Kids: []api.Tree{{Text: "x"}}}, {Text: "y"}}}
		return api.Program{
			Texts: []string{"a", "\xff"}, Codes: [][]api.Inst{{{Op: api.IInt, A: 5}, {Op: 99}}, nil, {{Op: api.INull}}}, Statics: []api.Tree{tree, {Text: "z"}, {}},
			Blocks: []api.Block{{Depth: 1, Ops: []api.Op{{Kind: api.OpWith, A: 1, B: 2, C: 3, List: []int{4, 5}}, {Kind: 99}}, Update: []int{0, -1}}, {}, {Depth: 3, Ops: []api.Op{{List: []int{1}}}}},
		}
	}
	p := made()
	got := Program(p)
	if !reflect.DeepEqual(got, made()) || !reflect.DeepEqual(p, made()) {
		t.Fatalf("%v", got)
	}
	for _, spoil := range []func(p api.Program){
		func(p api.Program) { p.Texts[1] = "b" },
		func(p api.Program) { p.Codes[1] = []api.Inst{{}} },
		func(p api.Program) { p.Codes[0][1].A = 3 },
		func(p api.Program) { p.Statics[1].Text = "b" },
		func(p api.Program) { p.Statics[0].Attrs[0].Value = "b" },
		func(p api.Program) { p.Statics[0].Kids[1].Text = "b" },
		func(p api.Program) { p.Statics[0].Kids[0].Kids[0].Text = "b" },
		func(p api.Program) { p.Blocks[1].Depth = 7 },
		func(p api.Program) { p.Blocks[0].Update[1] = 7 },
		func(p api.Program) { p.Blocks[0].Ops[1].Kind = 7 },
		func(p api.Program) { p.Blocks[0].Ops[0].List[1] = 7 },
		func(p api.Program) { p.Blocks[2].Ops[0].List[0] = 7 },
	} {
		given := made()
		copied := Program(given)
		spoil(copied)
		if !reflect.DeepEqual(given, made()) {
			t.Fatal("the copy shares memory")
		}
		copied = Program(given)
		spoil(given)
		if !reflect.DeepEqual(copied, made()) {
			t.Fatal("the copy shares memory")
		}
	}
	if !reflect.DeepEqual(Program(api.Program{}), api.Program{}) {
		t.Error("a copy of none")
	}
}
