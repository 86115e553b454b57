package expr

import (
	"slices"

	"stencil/api"
)

// read is the expression that all of s says, or the first fault on the way.
func read(s string) (e api.Expr, met fault) {
	defer func() {
		if f, ok := recover().(fault); ok {
			e, met = api.Expr{}, f
		}
	}()
	r := reader{input: s}
	r.advance()
	e = r.choice(1)
	if r.token.kind != endToken {
		panic(r.token.misplaced())
	}
	return e, met
}

// node makes an expression whose kids are all that it is.
func node(op int, kids ...api.Expr) api.Expr {
	return api.Expr{Op: op, Kids: kids}
}

// choice reads an if; nesting is that of the tokens that do not stand inside another part of it.
func (r *reader) choice(nesting int) api.Expr {
	test := r.level(looseLevel, nesting)
	if !r.token.is("?") {
		return test
	}
	r.advance()
	then := r.choice(nesting + 1)
	r.take(":")
	return node(api.EIf, test, then, r.choice(nesting+1))
}

// level reads what has two operands, from this level on.
func (r *reader) level(number int, nesting int) api.Expr {
	levels := levels()
	if number == len(levels) {
		return r.signed(nesting)
	}
	left := r.level(number+1, nesting)
more:
	for {
		for _, one := range levels[number] {
			if r.token.is(one.sign) {
				r.advance()
				left = node(one.op, left, r.level(number+1, nesting))
				continue more
			}
		}
		return left
	}
}

func (r *reader) signed(nesting int) api.Expr {
	r.begin(nesting)
	switch {
	case r.token.is("-"):
		r.advance()
		return node(api.ENeg, r.signed(nesting+1))
	case r.token.is("!"):
		r.advance()
		return node(api.ENot, r.signed(nesting+1))
	}
	return r.part(nesting)
}

// begin asks how deep the token lies that stands where an operand is wanted, ahead of whether it may stand there. No other token need be asked: none lies deeper than one that was asked ahead of it.
func (r *reader) begin(nesting int) {
	if nesting > api.MaxExprDepth && r.token.kind != endToken {
		panic(fault{api.ErrExprDeep, r.token.at})
	}
}

func (r *reader) part(nesting int) api.Expr {
	e := r.word(nesting)
	for {
		switch {
		case r.token.is("."):
			r.advance()
			e = api.Expr{Op: api.EField, Str: r.field(), Kids: []api.Expr{e}}
		case r.token.is("["):
			e = node(api.EIndex, e, r.between("[", "]", nesting))
		default:
			return e
		}
	}
}

// field reads the name behind a `.`, whichever it is.
func (r *reader) field() string {
	name := r.token
	if name.kind != nameToken {
		panic(name.misplaced())
	}
	r.advance()
	return name.text
}

// between reads an if between two brackets.
func (r *reader) between(opening, closing string, nesting int) api.Expr {
	r.take(opening)
	e := r.choice(nesting + 1)
	r.take(closing)
	return e
}

func (r *reader) word(nesting int) api.Expr {
	met := r.token
	switch met.kind {
	case numberToken:
		r.advance()
		return api.Expr{Op: api.EInt, Int: met.number}
	case textToken:
		r.advance()
		return api.Expr{Op: api.EStr, Str: met.text}
	case nameToken:
		r.advance()
		return r.named(met.text, nesting)
	}
	return r.between("(", ")", nesting)
}

// named is what a name says by what stands behind it: the names of the calls are names like others, but ahead of a `(`.
func (r *reader) named(name string, nesting int) api.Expr {
	if op := slices.Index(words(), name); op >= 0 {
		return api.Expr{Op: op}
	}
	if call := slices.Index(calls(), name); call >= 0 && r.token.is("(") {
		return api.Expr{Op: api.ECall, Int: call, Kids: []api.Expr{r.between("(", ")", nesting)}}
	}
	return api.Expr{Op: api.EVar, Str: name}
}
