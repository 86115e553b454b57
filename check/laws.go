package check

import (
	"slices"

	"stencil/api"
	"stencil/utf"
)

// table tells what may be an element of each special tag.
func (x *examiner) table() map[string]func(element) law {
	return map[string]func(element) law{
		"if":   ifLaw,
		"else": elseLaw,
		"for":  x.forLaw,
		"def":  x.defLaw,
		"slot": slotLaw,
		"fill": fillLaw,
	}
}

func (x *examiner) plainLaw(e element) law {
	l := law{inside: e.inner()}
	if x.named[e.Tag] > 0 {
		l.misplaced = api.ErrCheckUse
	}
	l.others = func(api.Field) bool { return true }
	return l
}

func ifLaw(e element) law {
	return law{
		rows:   []row{{name: "test", bound: true, missing: api.ErrCheckForm}},
		stray:  api.ErrCheckForm,
		inside: e.inner(),
	}
}

func elseLaw(e element) law {
	l := law{stray: api.ErrCheckForm, inside: e.inner()}
	if e.ahead == nil || e.ahead.Tag != "if" {
		l.misplaced = api.ErrCheckElse
	}
	l.join = func(out, kids []branch) []branch {
		last := len(out) - 1
		// Behind the if stands at most one text, which is blank: no two stand side by side.
		if out[last].node.Kind == api.NText {
			last--
		}
		out[last].other = kids
		return out[:last+1]
	}
	return l
}

func (x *examiner) forLaw(e element) law {
	each, at := plainOf(e.Node, "each"), plainOf(e.Node, "at")
	l := law{stray: api.ErrCheckForm, inside: e.inner()}
	l.inside.scope = e.scope.with(0, each, at)
	l.rows = []row{
		{name: "key", bound: true, missing: api.ErrCheckKey, inner: true},
		{name: "each", plain: true, missing: api.ErrCheckForm, fits: isWord},
		{name: "at", plain: true, fits: func(s string) bool { return isWord(s) && s != each }},
		{name: "in", bound: true, missing: api.ErrCheckForm},
	}
	l.rest = func() fault {
		if !x.isLoopBody(e) {
			return fault{api.ErrCheckBody, e.At}
		}
		return fault{}
	}
	l.join = func(out, kids []branch) []branch {
		i := slices.IndexFunc(kids, func(b branch) bool { return b.node.Kind == api.NElem })
		return append(out, branch{node: e.Node, kids: kids[i : i+1]})
	}
	return l
}

// isLoopBody tells whether a for holds, but for blank texts, one element alone that stays one.
func (x *examiner) isLoopBody(e element) bool {
	i := slices.IndexFunc(e.Kids, isSolid)
	if i < 0 || slices.ContainsFunc(e.Kids[i+1:], isSolid) || e.Kids[i].Kind != api.NElem {
		return false
	}
	tag := e.Kids[i].Tag
	return !x.isSpecial(tag) && x.defs[tag] == nil
}

func (x *examiner) defLaw(e element) law {
	name, props := plainOf(e.Node, "name"), words(plainOf(e.Node, "props"))
	def := &component{props: props, slots: map[string]*opening{}}
	l := law{stray: api.ErrCheckForm}
	l.inside = around{scope: e.scope.with(0, props...), def: def}
	if !e.head {
		l.misplaced = api.ErrCheckDef
	}
	l.rows = []row{
		{name: "name", plain: true, missing: api.ErrCheckForm, fits: func(s string) bool { return utf.Tag(s) && !x.isSpecial(s) }},
		{name: "props", plain: true, fits: areWords},
	}
	l.rest = func() fault {
		if x.defs[name] != nil || len(x.defs) == api.MaxDefs {
			return fault{api.ErrCheckDef, e.At}
		}
		return fault{}
	}
	l.join = func(out, kids []branch) []branch {
		def.kids = kids
		x.defs[name] = def
		return out
	}
	return l
}

func slotLaw(e element) law {
	l := law{stray: api.ErrCheckForm, inside: e.inner()}
	if e.def == nil {
		l.misplaced = api.ErrCheckSlot
	}
	l.rows = []row{{name: "name", plain: true, fits: isSlotName}}
	l.others = func(field api.Field) bool { return field.Bound && isWord(field.Name) }
	l.join = func(out, kids []branch) []branch {
		e.def.open(e.Node)
		return append(out, branch{node: e.Node, kids: kids})
	}
	return l
}

func fillLaw(e element) law {
	name, let := plainOf(e.Node, "name"), words(plainOf(e.Node, "let"))
	l := law{stray: api.ErrCheckForm, inside: e.inner()}
	l.inside.scope = e.scope.with(0, let...)
	if e.use == nil {
		l.misplaced = api.ErrCheckFill
	}
	l.rows = []row{{name: "name", plain: true, fits: isSlotName}, {name: "let", plain: true, fits: areWords}}
	l.rest = func() fault { return e.use.misfit(e.Node) }
	l.join = func(out, kids []branch) []branch {
		e.use.fills[name] = fill{let: let, kids: kids}
		return out
	}
	return l
}

func useLaw(e element, def *component) law {
	u := &use{def: def, fills: map[string]fill{}}
	l := law{stray: api.ErrCheckUse, inside: e.inner()}
	l.inside.use = u
	for _, prop := range def.props {
		l.rows = append(l.rows, row{name: prop, plain: true, bound: true, missing: api.ErrCheckUse})
	}
	l.rest = func() fault { return def.misfit(e.Node) }
	l.join = func(out, kids []branch) []branch {
		if len(u.fills) == 0 && slices.ContainsFunc(e.Kids, isSolid) {
			u.fills[""] = fill{kids: kids}
		}
		return append(out, branch{node: e.Node, use: u})
	}
	return l
}
