package render

import (
	"slices"

	"stencil/api"
	"stencil/core"
	"stencil/eval"
	"stencil/value"
)

// The document said a second time: errors are handed up by hand; of an expression each Op is reckoned by itself, by chapter 11's call with names for its kids; what of a core is still to be done is a list of tasks, each with a stack of its own, and the nodes come out as a flat list with the places of their parents.

// answer is what Eval answers.
type answer struct {
	v    api.Value
	code api.Errno
}

func failed(code api.Errno) answer { return answer{code: code} }

func came(v api.Value) answer { return answer{v: v} }

// askedEval is what P16.1 says of e and a stack. In a text of one part a resolved expression may be by chapter 15 just if it may be at all; its places are asked behind all else.
func askedEval(e api.Expr, stack []api.Value) answer {
	code := core.Check([]api.Core{hole(e)})
	if code != api.OK && code != api.ErrCoreName {
		return failed(api.ErrEvalTree)
	}
	for _, v := range stack {
		if value.Check(v) != api.OK {
			return failed(api.ErrEvalTree)
		}
	}
	return asked(e, stack)
}

func asked(e api.Expr, stack []api.Value) answer {
	switch e.Op {
	case api.EVar:
		for place, v := range stack {
			if place == e.Int {
				return came(v)
			}
		}
		return failed(api.ErrEvalName)
	case api.EStr:
		return came(txt(e.Str))
	case api.EBoth, api.EAny, api.EIf:
		return askedChoice(e, stack)
	}
	var env []api.Bind
	alone := api.Expr{Op: e.Op, Int: e.Int, Str: e.Str}
	for i, kid := range e.Kids {
		got := asked(kid, stack)
		if got.code != api.OK {
			return got
		}
		name := []string{"first", "second"}[i]
		alone.Kids = append(alone.Kids, api.Expr{Op: api.EVar, Str: name})
		env = append(env, api.Bind{Name: name, Value: got.v})
	}
	v, code := eval.Eval(alone, env)
	return answer{v, code}
}

// askedChoice asks the first kid, and then at most one other.
func askedChoice(e api.Expr, stack []api.Value) answer {
	test := asked(e.Kids[0], stack)
	if test.code != api.OK {
		return test
	}
	if test.v.Kind != api.KBool {
		return failed(api.ErrEvalType)
	}
	next := 1
	switch {
	case e.Op == api.EBoth && !test.v.Bool, e.Op == api.EAny && test.v.Bool:
		return test
	case e.Op == api.EIf && !test.v.Bool:
		next = 2
	}
	got := asked(e.Kids[next], stack)
	if e.Op != api.EIf && got.code == api.OK && got.v.Kind != api.KBool {
		return failed(api.ErrEvalType)
	}
	return got
}

// task is a core node that is still to be done, in the node at that place.
type task struct {
	core   api.Core
	stack  []api.Value
	parent int
}

func tasks(cs []api.Core, stack []api.Value, parent int) []task {
	var out []task
	for _, c := range cs {
		out = append(out, task{c, stack, parent})
	}
	return out
}

// onto is a stack with more on it, in a copy.
func onto(stack []api.Value, more ...api.Value) []api.Value {
	return slices.Concat(stack, more)
}

// flat is a node by itself.
type flat struct {
	tree   api.Tree
	parent int
}

// askedRender is what P16.2 says of a core and a state.
func askedRender(cs []api.Core, v api.Value) ([]api.Tree, api.Errno) {
	if code := core.Check(cs); code != api.OK {
		return nil, code
	}
	if code := value.Check(v); code != api.OK {
		return nil, code
	}
	var done []flat
	// The next one stands last.
	todo := tasks(cs, []api.Value{v}, -1)
	slices.Reverse(todo)
	for len(todo) > 0 {
		next := todo[len(todo)-1]
		made, inside, code := step(next, len(done))
		if code != api.OK {
			return nil, code
		}
		done = append(done, made...)
		slices.Reverse(inside)
		todo = append(todo[:len(todo)-1], inside...)
	}
	return built(done, -1), api.OK
}

// built are the trees whose parent is that one.
func built(done []flat, parent int) []api.Tree {
	kids := map[int][]int{}
	for i, one := range done {
		kids[one.parent] = append(kids[one.parent], i)
	}
	var build func(int) []api.Tree
	build = func(parent int) []api.Tree {
		var out []api.Tree
		for _, i := range kids[parent] {
			tree := done[i].tree
			tree.Kids = build(i)
			out = append(out, tree)
		}
		return out
	}
	return build(parent)
}

// step is what comes of a task: at most one node, which stands at that place, and tasks.
func step(t task, place int) ([]flat, []task, api.Errno) {
	c := t.core
	if (c.Kind == api.CText || c.Kind == api.CElem) && place >= 4096 {
		return nil, nil, api.ErrRenderLarge
	}
	switch c.Kind {
	case api.CText:
		s, code := askedText(c.Parts, t.stack)
		return []flat{{api.Tree{Text: s}, t.parent}}, nil, code
	case api.CElem:
		attrs, code := askedAttrs(c.Fields, t.stack)
		return []flat{{api.Tree{Tag: c.Tag, Attrs: attrs}, t.parent}}, tasks(c.Kids, t.stack, place), code
	case api.CIf:
		test := asked(c.Exprs[0], t.stack)
		if test.code == api.OK && test.v.Kind != api.KBool {
			return nil, nil, api.ErrEvalType
		}
		if test.v.Bool {
			return nil, tasks(c.Kids, t.stack, t.parent), test.code
		}
		return nil, tasks(c.Else, t.stack, t.parent), test.code
	case api.CFor:
		inside, code := askedLoop(t)
		return nil, inside, code
	}
	more := []api.Value{}
	for _, e := range c.Exprs {
		got := asked(e, t.stack)
		if got.code != api.OK {
			return nil, nil, got.code
		}
		more = append(more, got.v)
	}
	return nil, tasks(c.Kids, onto(t.stack, more...), t.parent), api.OK
}

func askedText(parts []api.Part, stack []api.Value) (string, api.Errno) {
	s := ""
	for _, p := range parts {
		s += p.Plain
		if p.Bound {
			got := asked(p.Expr, stack)
			if got.code != api.OK {
				return "", got.code
			}
			more, code := value.Text(got.v)
			if code != api.OK {
				return "", api.ErrEvalType
			}
			s += more
		}
		if len(s) > 4096 {
			return "", api.ErrEvalLong
		}
	}
	return s, api.OK
}

func askedAttrs(fields []api.Field, stack []api.Value) ([]api.Attr, api.Errno) {
	var out []api.Attr
	for _, f := range fields {
		attr := api.Attr{Name: f.Name, Value: f.Plain}
		if f.Bound {
			got := asked(f.Expr, stack)
			if got.code != api.OK {
				return nil, got.code
			}
			if got.v.Kind == api.KNull || got.v.Kind == api.KBool && !got.v.Bool {
				continue
			}
			if got.v.Kind == api.KList || got.v.Kind == api.KRec {
				return nil, api.ErrEvalType
			}
			if got.v.Kind != api.KBool {
				attr.Value, _ = value.Text(got.v)
			}
		}
		out = append(out, attr)
	}
	return out, api.OK
}

// askedLoop holds each key against those ahead of it, by their kinds and texts.
func askedLoop(t task) ([]task, api.Errno) {
	list := asked(t.core.Exprs[0], t.stack)
	if list.code != api.OK {
		return nil, list.code
	}
	if list.v.Kind != api.KList {
		return nil, api.ErrEvalType
	}
	var out []task
	var ints []int
	var texts []string
	for i, one := range list.v.List {
		inner := onto(t.stack, one, whole(i))
		key := asked(t.core.Exprs[1], inner)
		switch {
		case key.code != api.OK:
			return nil, key.code
		case key.v.Kind == api.KInt && !slices.Contains(ints, key.v.Int):
			ints = append(ints, key.v.Int)
		case key.v.Kind == api.KStr && !slices.Contains(texts, key.v.Str):
			texts = append(texts, key.v.Str)
		case key.v.Kind == api.KInt, key.v.Kind == api.KStr:
			return nil, api.ErrRenderKey
		default:
			return nil, api.ErrEvalType
		}
		out = append(out, tasks(t.core.Kids, inner, t.parent)...)
	}
	return out, api.OK
}
