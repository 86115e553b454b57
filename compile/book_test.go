package compile

import (
	"fmt"
	"slices"
	"strconv"
	"strings"
	"testing"

	"stencil/api"
	"stencil/check"
	"stencil/data"
	"stencil/expr"
	"stencil/syntax"
)

// x is an expression, in which p0, p1 .. are the places of the stack.
func x(s string) api.Expr {
	e, at, fault := expr.Parse(s)
	if fault != api.OK {
		panic(s + ": " + strconv.Itoa(at))
	}
	return resolved(e)
}

func resolved(e api.Expr) api.Expr {
	if place, err := strconv.Atoi(strings.TrimPrefix(e.Str, "p")); e.Op == api.EVar && err == nil {
		return api.Expr{Op: api.EVar, Int: place}
	}
	e.Kids = slices.Clone(e.Kids)
	for i, kid := range e.Kids {
		e.Kids[i] = resolved(kid)
	}
	return e
}

func xs(those ...string) []api.Expr {
	var out []api.Expr
	for _, s := range those {
		out = append(out, x(s))
	}
	return out
}

func plain(s string) api.Part { return api.Part{Plain: s} }

func bound(s string) api.Part { return api.Part{Bound: true, Expr: x(s)} }

func parts(ps ...api.Part) api.Core { return api.Core{Kind: api.CText, Parts: ps} }

func text(s string) api.Core { return parts(plain(s)) }

func show(s string) api.Core { return parts(bound(s)) }

func elem(tag string, kids ...api.Core) api.Core {
	return api.Core{Kind: api.CElem, Tag: tag, Kids: kids}
}

func attr(name, s string) api.Field { return api.Field{Name: name, Plain: s} }

func boundAttr(name, s string) api.Field { return api.Field{Name: name, Bound: true, Expr: x(s)} }

func fields(c api.Core, fs ...api.Field) api.Core {
	c.Fields = fs
	return c
}

func when(test string, kids ...api.Core) api.Core {
	return api.Core{Kind: api.CIf, Exprs: xs(test), Kids: kids}
}

func otherwise(c api.Core, others ...api.Core) api.Core {
	c.Else = others
	return c
}

func loop(list, key string, kid api.Core) api.Core {
	return api.Core{Kind: api.CFor, Exprs: xs(list, key), Kids: []api.Core{kid}}
}

func with(exprs []string, kids ...api.Core) api.Core {
	return api.Core{Kind: api.CWith, Exprs: xs(exprs...), Kids: kids}
}

func list(cs ...api.Core) []api.Core { return cs }

// times is so many of one node, side by side.
func times(n int, c api.Core) []api.Core { return slices.Repeat(list(c), n) }

func template(t *testing.T, s string) []api.Core {
	t.Helper()
	nodes, at, fault := syntax.Parse(s)
	if fault == api.OK {
		var cs []api.Core
		if cs, at, fault = check.Check(nodes); fault == api.OK {
			return cs
		}
	}
	t.Fatalf("%s: %d at %d", s, fault, at)
	return nil
}

func datum(t *testing.T, s string) api.Value {
	t.Helper()
	v, at, fault := data.Parse([]byte(s))
	if fault != api.OK {
		t.Fatalf("%.200s: %d at %d", s, fault, at)
	}
	return v
}

// settings are all eight.
func settings() []api.Options {
	var out []api.Options
	for n := range 8 {
		out = append(out, api.Options{Hoist: n&1 > 0, Flags: n&2 > 0, Inline: n&4 > 0})
	}
	return out
}

// cut is what may be long, for a message.
func cut(x any) string {
	s := fmt.Sprintf("%+v", x)
	if len(s) > 3000 {
		return s[:2500] + " .. " + s[len(s)-400:]
	}
	return s
}
