package check

import (
	"strings"

	"stencil/api"
)

// scope binds a name to a place of the stack, inside another scope; nil binds none.
type scope struct {
	name  string
	place int
	outer *scope
}

// with is a scope inside s that binds the names to the places from first on. An empty name, as of a field that is left out, takes its place and is never asked.
func (s *scope) with(first int, names ...string) *scope {
	for i, name := range names {
		s = &scope{name: name, place: first + i, outer: s}
	}
	return s
}

func (s *scope) find(name string) (int, bool) {
	for ; s != nil; s = s.outer {
		if s.name == name {
			return s.place, true
		}
	}
	return 0, false
}

// binds tells whether every name that e asks is bound.
func (s *scope) binds(e api.Expr) bool {
	if e.Op == api.EVar {
		_, ok := s.find(e.Str)
		return ok
	}
	for _, kid := range e.Kids {
		if !s.binds(kid) {
			return false
		}
	}
	return true
}

// resolved is e with places for names; a name that nothing binds is a field of the state.
func (s *scope) resolved(e api.Expr) api.Expr {
	if e.Op == api.EVar {
		place, ok := s.find(e.Str)
		if ok {
			return api.Expr{Op: api.EVar, Int: place}
		}
		return api.Expr{Op: api.EField, Str: strings.Clone(e.Str), Kids: []api.Expr{{Op: api.EVar}}}
	}
	out := api.Expr{Op: e.Op, Int: e.Int, Str: strings.Clone(e.Str)}
	for _, kid := range e.Kids {
		out.Kids = append(out.Kids, s.resolved(kid))
	}
	return out
}

// value is what a field says as an expression.
func (s *scope) value(field api.Field) api.Expr {
	if field.Bound {
		return s.resolved(field.Expr)
	}
	return api.Expr{Op: api.EStr, Str: strings.Clone(field.Plain)}
}

func (s *scope) part(part api.Part) api.Part {
	if part.Bound {
		return api.Part{Bound: true, Expr: s.resolved(part.Expr)}
	}
	return api.Part{Plain: strings.Clone(part.Plain)}
}

func (s *scope) field(field api.Field) api.Field {
	p := s.part(api.Part{Plain: field.Plain, Bound: field.Bound, Expr: field.Expr})
	return api.Field{Name: strings.Clone(field.Name), Plain: p.Plain, Bound: p.Bound, Expr: p.Expr}
}
