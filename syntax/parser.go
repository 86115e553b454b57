package syntax

import (
	"stencil/api"
	"stencil/expr"
)

// parser puts a template's tokens together. The place of whatever fault a token has is the token's own.
type parser struct {
	// open holds the elements that are not closed yet, the innermost last; the first is none, but holds the whole template.
	open  []*api.Node
	count int
	// gather takes a further part of the text that the last token belongs to; it is nil where that was no text's.
	gather func(api.Part)
}

func (p *parser) take(token api.Token) api.Errno {
	if token.Kind == api.TokText || token.Kind == api.TokExpr {
		return p.part(token)
	}
	p.gather = nil
	switch token.Kind {
	case api.TokOpen:
		return p.element(token)
	case api.TokAttr, api.TokBound:
		return p.field(token)
	case api.TokSelf:
		p.close()
	case api.TokClose:
		return p.closing(token)
	}
	return api.OK
}

func (p *parser) part(token api.Token) api.Errno {
	if p.gather == nil {
		if code := p.text(token); code != api.OK {
			return code
		}
	}
	part, code := content(token.Text, token.Kind == api.TokExpr)
	if code != api.OK {
		return code
	}
	p.gather(part)
	return api.OK
}

// text begins a text, whose parts are still to come.
func (p *parser) text(first api.Token) api.Errno {
	text, code := p.add(api.Node{Kind: api.NText, At: first.At})
	if code != api.OK {
		return code
	}
	p.gather = func(part api.Part) {
		text.Parts = append(text.Parts, part)
	}
	return api.OK
}

func (p *parser) element(token api.Token) api.Errno {
	element, code := p.add(api.Node{Kind: api.NElem, Tag: token.Name, At: token.At})
	if code != api.OK {
		return code
	}
	if len(p.open) > api.MaxNest {
		return api.ErrSyntaxDeep
	}
	p.open = append(p.open, element)
	return api.OK
}

func (p *parser) field(token api.Token) api.Errno {
	part, code := content(token.Text, token.Kind == api.TokBound)
	if code != api.OK {
		return code
	}
	element := p.inner()
	element.Fields = append(element.Fields, api.Field{Name: token.Name, Plain: part.Plain, Bound: part.Bound, Expr: part.Expr, At: token.At})
	return api.OK
}

// closing closes the innermost open element. Where none is open, the whole template is there, which has no tag, so that no closing tag is its own.
func (p *parser) closing(token api.Token) api.Errno {
	if p.inner().Tag != token.Name {
		return api.ErrSyntaxTag
	}
	p.close()
	return api.OK
}

func (p *parser) close() {
	p.open = p.open[:len(p.open)-1]
}

// add makes a node the last kid of the innermost open element, and answers where it lies: there it stays until that element's next kid moves the row.
func (p *parser) add(node api.Node) (*api.Node, api.Errno) {
	if p.count == api.MaxParse {
		return nil, api.ErrSyntaxLarge
	}
	p.count++
	element := p.inner()
	element.Kids = append(element.Kids, node)
	return &element.Kids[len(element.Kids)-1], api.OK
}

func (p *parser) inner() *api.Node {
	return p.open[len(p.open)-1]
}

// content is what texts and attributes share: a plain text, or the expression that a bound one says.
func content(text string, bound bool) (api.Part, api.Errno) {
	if !bound {
		return api.Part{Plain: text}, api.OK
	}
	e, _, code := expr.Parse(text)
	if code != api.OK {
		return api.Part{}, api.ErrSyntaxExpr
	}
	return api.Part{Bound: true, Expr: e}, api.OK
}
