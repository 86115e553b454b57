package syntax

import (
	"strings"

	"stencil/api"
	"stencil/expr"
	"stencil/html"
	"stencil/shape"
	"stencil/utf"
)

// printer writes nodes while it asks whether they may be; each of its methods tells that, and what was written ahead of a false counts for nothing. It has room for so many nodes more, and goes no further, so that nodes that lie in one another many times over end it too.
type printer struct {
	out  strings.Builder
	room int
}

// nodes writes what stands in so many elements.
func (p *printer) nodes(ns []api.Node, depth int) bool {
	for i, n := range ns {
		if n.Kind == api.NText && i > 0 && ns[i-1].Kind == api.NText {
			return false
		}
		if !p.node(n, depth) {
			return false
		}
	}
	return true
}

func (p *printer) node(n api.Node, depth int) bool {
	if p.room == 0 {
		return false
	}
	p.room--
	switch n.Kind {
	case api.NText:
		return n.Tag == "" && len(n.Fields) == 0 && len(n.Kids) == 0 && shape.Row(n.Parts) && p.parts(n.Parts)
	case api.NElem:
		return len(n.Parts) == 0 && depth < api.MaxNest && p.element(n, depth+1)
	}
	return false
}

func (p *printer) parts(parts []api.Part) bool {
	for _, part := range parts {
		text, ok := written(part)
		if !ok {
			return false
		}
		if part.Bound {
			p.write("{{ ", text, " }}")
		} else {
			p.write(html.Text(text))
		}
	}
	return true
}

func (p *printer) element(n api.Node, depth int) bool {
	if !utf.Tag(n.Tag) {
		return false
	}
	p.write("<", n.Tag)
	for _, field := range n.Fields {
		if !p.field(field) {
			return false
		}
	}
	if len(n.Kids) == 0 {
		p.write("/>")
		return true
	}
	p.write(">")
	if !p.nodes(n.Kids, depth) {
		return false
	}
	p.write("</", n.Tag, ">")
	return true
}

func (p *printer) field(field api.Field) bool {
	text, ok := written(api.Part{Plain: field.Plain, Bound: field.Bound, Expr: field.Expr})
	if !ok || !utf.Tag(field.Name) {
		return false
	}
	p.write(" ")
	if field.Bound {
		p.write(":")
	}
	p.write(field.Name, `="`, html.Attr(text), `"`)
	return true
}

func (p *printer) write(texts ...string) {
	for _, text := range texts {
		p.out.WriteString(text)
	}
}

// written is the text of what may be one of a text's parts or a field's value, ahead of its escapes: the plain text, or the expression's.
func written(part api.Part) (string, bool) {
	if !shape.Value(part) {
		return "", false
	}
	if !part.Bound {
		return part.Plain, true
	}
	text, code := expr.Print(part.Expr)
	return text, code == api.OK
}
