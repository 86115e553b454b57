package check

import "stencil/api"

// element is an element in its place.
type element struct {
	*api.Node
	around
	// ahead is the last node in the same list ahead of it that is no blank text, or nil.
	ahead *api.Node
}

// law says what an element may be; what it does not set it does not ask for.
type law struct {
	misplaced api.Errno
	rows      []row
	// others tells which fields may stand beside those of the rows.
	others func(api.Field) bool
	// stray is told of fields that may not stand.
	stray api.Errno
	// rest is what is asked behind the fields.
	rest func() fault
	// inside is what lies around its kids.
	inside around
	// join puts the element, with what came of its kids, behind what came of the nodes ahead of it.
	join func(out, kids []branch) []branch
}

// row is a field that an element may have.
type row struct {
	name         string
	plain, bound bool
	// missing is told if the field must stand and does not.
	missing api.Errno
	// fits tells which plain values may be; nil: all.
	fits func(string) bool
	// inner says that its expression may ask what the kids may ask.
	inner bool
}

// fault is the first fault of an element, its kids not asked.
func (l law) fault(e element) fault {
	for _, step := range []func(element) fault{l.place, l.strayField, l.missingField, l.wrongField, l.last} {
		if f := step(e); f.met() {
			return f
		}
	}
	return fault{}
}

func (l law) place(e element) fault {
	return fault{l.misplaced, e.At}
}

func (l law) strayField(e element) fault {
	met := map[string]int{}
	for _, field := range e.Fields {
		met[field.Name]++
		if met[field.Name] > 1 {
			return fault{api.ErrCheckTwice, field.At}
		}
		if !l.lets(field) {
			return fault{l.stray, field.At}
		}
	}
	return fault{}
}

func (l law) lets(field api.Field) bool {
	r := l.row(field.Name)
	if field.Bound && r.bound || !field.Bound && r.plain {
		return true
	}
	return l.others != nil && l.others(field)
}

// row is the row of that name; if there is none, a zero one.
func (l law) row(name string) row {
	for _, r := range l.rows {
		if r.name == name {
			return r
		}
	}
	return row{}
}

func (l law) missingField(e element) fault {
	for _, r := range l.rows {
		if r.missing != api.OK && fieldOf(e.Node, r.name).Name == "" {
			return fault{r.missing, e.At}
		}
	}
	return fault{}
}

func (l law) wrongField(e element) fault {
	for _, field := range e.Fields {
		r := l.row(field.Name)
		names := e.scope
		if r.inner {
			names = l.inside.scope
		}
		switch {
		case !field.Bound && r.fits != nil && !r.fits(field.Plain):
			return fault{api.ErrCheckForm, field.At}
		case field.Bound && !e.mayAsk(field.Expr, names):
			return fault{api.ErrCheckName, field.At}
		}
	}
	return fault{}
}

func (l law) last(element) fault {
	if l.rest == nil {
		return fault{}
	}
	return l.rest()
}
