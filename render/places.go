package render

import (
	"stencil/api"
	"stencil/reckon"
	"stencil/value"
)

// places are those of the stack. What is asked of them throws the error, if there is one.
type places struct {
	stack []api.Value
}

// at is what a variable stands for, and whether it stands for anything.
func (p *places) at(variable api.Expr) (api.Value, bool) {
	if variable.Int < 0 || variable.Int >= len(p.stack) {
		return api.Value{}, false
	}
	return p.stack[variable.Int], true
}

// value asks neither whether e nor whether what lies on the stack may be: core.Check and value.Check did, and what comes of such may be too.
func (p *places) value(e api.Expr) api.Value {
	v, code := reckon.Value(e, p.at)
	if code != api.OK {
		panic(code)
	}
	return v
}

func (p *places) truth(e api.Expr) bool {
	v := p.value(e)
	must(v.Kind == api.KBool)
	return v.Bool
}

func (p *places) list(e api.Expr) []api.Value {
	v := p.value(e)
	must(v.Kind == api.KList)
	return v.List
}

func (p *places) key(e api.Expr) api.Key {
	key, code := value.KeyOf(p.value(e))
	must(code == api.OK)
	return key
}

func (p *places) push(vs ...api.Value) {
	p.stack = append(p.stack, vs...)
}

func (p *places) drop(n int) {
	p.stack = p.stack[:len(p.stack)-n]
}

func textOf(v api.Value) string {
	text, code := value.Text(v)
	must(code == api.OK)
	return text
}

// must throws ErrEvalType where a value is not of a kind that is taken.
func must(fits bool) {
	if !fits {
		panic(api.ErrEvalType)
	}
}
