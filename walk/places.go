package walk

import (
	"stencil/api"
	"stencil/value"
)

// Places are those of the stack.
type Places []api.Value

// At is what a variable stands for, and whether it stands for anything.
func (p Places) At(variable api.Expr) (api.Value, bool) {
	if variable.Int < 0 || variable.Int >= len(p) {
		return api.Value{}, false
	}
	return p[variable.Int], true
}

// Push puts values on the stack.
func (p *Places) Push(vs ...api.Value) {
	*p = append(*p, vs...)
}

// Drop takes so many values from the stack.
func (p *Places) Drop(n int) {
	*p = (*p)[:len(*p)-n]
}

// Within calls met with an element of a list, and its number there, on the stack.
func (p *Places) Within(list []api.Value, i int, met func()) {
	p.Push(list[i], api.Value{Kind: api.KInt, Int: i})
	met()
	p.Drop(2)
}

// Keys are those of the elements of a list, as key reckons each with what Within puts on the stack. It throws twice, if an element has the key of one ahead of it.
func (p *Places) Keys(list []api.Value, key func() api.Value, twice api.Errno) []api.Key {
	var out []api.Key
	met := make(map[api.Key]int, len(list))
	for i := range list {
		p.Within(list, i, func() { out = append(out, keyOf(key())) })
		if _, stands := met[out[i]]; stands {
			panic(twice)
		}
		met[out[i]] = i
	}
	return out
}

func keyOf(v api.Value) api.Key {
	key, code := value.KeyOf(v)
	must(code == api.OK)
	return key
}

// Text is what a value is written as; like all that are asked of a value here, it throws ErrEvalType, if the value is not of a kind that is taken.
func Text(v api.Value) string {
	text, code := value.Text(v)
	must(code == api.OK)
	return text
}

// Attr is the attribute that a value comes to, and whether it is one at all.
func Attr(v api.Value) (string, bool) {
	switch v.Kind {
	case api.KNull:
		return "", false
	case api.KBool:
		return "", v.Bool
	}
	return Text(v), true
}

// Truth is what a test comes to.
func Truth(v api.Value) bool {
	must(v.Kind == api.KBool)
	return v.Bool
}

// List is what a loop goes through.
func List(v api.Value) []api.Value {
	must(v.Kind == api.KList)
	return v.List
}

func must(fits bool) {
	if !fits {
		panic(api.ErrEvalType)
	}
}
