package walk

import (
	"stencil/api"
	"stencil/reckon"
	"stencil/value"
)

// Places are those of the stack. What is asked of them but for At throws the error, if there is one.
type Places []api.Value

// At is what a variable stands for, and whether it stands for anything.
func (p Places) At(variable api.Expr) (api.Value, bool) {
	if variable.Int < 0 || variable.Int >= len(p) {
		return api.Value{}, false
	}
	return p[variable.Int], true
}

// value asks neither whether e nor whether what lies on the stack may be: core.Check and value.Check did, and what comes of such may be too.
func (p Places) value(e api.Expr) api.Value {
	v, code := reckon.Value(e, p.At)
	if code != api.OK {
		panic(code)
	}
	return v
}

func (p Places) truth(e api.Expr) bool {
	v := p.value(e)
	must(v.Kind == api.KBool)
	return v.Bool
}

func (p Places) list(e api.Expr) []api.Value {
	v := p.value(e)
	must(v.Kind == api.KList)
	return v.List
}

func (p Places) key(e api.Expr) api.Key {
	key, code := value.KeyOf(p.value(e))
	must(code == api.OK)
	return key
}

func (p *Places) push(vs ...api.Value) {
	*p = append(*p, vs...)
}

func (p *Places) drop(n int) {
	*p = (*p)[:len(*p)-n]
}

func textOf(v api.Value) string {
	text, code := value.Text(v)
	must(code == api.OK)
	return text
}

// must throws ErrEvalType where a value is not of a kind that is taken.
func must(fits bool) {
	if !fits {
		panic(api.ErrEvalType)
	}
}
