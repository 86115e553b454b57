package core

import (
	"slices"
	"strings"
	"unicode/utf8"

	"stencil/api"
)

// The document said a second time: a core is a flat list of nodes, each with the numbers of those around it, and each thing that is asked of a node is asked by itself.

type flat struct {
	api.Core
	around []int // the numbers of the nodes around it, the outermost first
	end    int   // the number behind the last node in it
}

// laid are the nodes in preorder.
func laid(cs []api.Core) []flat {
	var all []flat
	var lay func(cs []api.Core, around []int)
	lay = func(cs []api.Core, around []int) {
		for _, c := range cs {
			number := len(all)
			all = append(all, flat{Core: c, around: around})
			inside := append(slices.Clone(around), number)
			lay(c.Kids, inside)
			lay(c.Else, inside)
			all[number].end = len(all)
		}
	}
	lay(cs, nil)
	return all
}

// askedCheck holds for each node each of the five against it, and takes the first.
func askedCheck(all []flat) api.Errno {
	pieces := 0
	for i, n := range all {
		pieces += askedPieces(n.Core)
		stack, elements, loops := 1, 0, 0
		for _, k := range n.around {
			stack += askedMore(all[k].Core)
			elements += one(all[k].Kind == api.CElem)
			loops += one(all[k].Kind == api.CFor)
		}
		switch {
		case pieces > 4096:
			return api.ErrCoreLarge
		case stack+askedMore(n.Core) > 64, n.Kind == api.CElem && elements >= 63, n.Kind == api.CFor && loops >= 8:
			return api.ErrCoreDeep
		case len(against(all[i].Core)) > 0:
			return api.ErrCoreForm
		case slices.ContainsFunc(askedExprs(n.Core), func(e api.Expr) bool { return !askedResolved(e) }):
			return api.ErrCoreExpr
		}
		for k, e := range askedExprs(n.Core) {
			high := stack
			if n.Kind == api.CFor && k == 1 {
				high += 2
			}
			if slices.ContainsFunc(leaves(e), func(leaf api.Expr) bool { return leaf.Op == api.EVar && (leaf.Int < 0 || leaf.Int > high-1) }) {
				return api.ErrCoreName
			}
		}
	}
	return api.OK
}

func one(holds bool) int {
	if holds {
		return 1
	}
	return 0
}

// askedMore is how many values a node puts on the stack.
func askedMore(c api.Core) int {
	return one(c.Kind == api.CFor)*2 + one(c.Kind == api.CWith)*len(c.Exprs)
}

// against is all that speaks against a node, but for its expressions and kids.
func against(c api.Core) []string {
	var words []string
	say := func(wrong bool, word string) {
		if wrong {
			words = append(words, word)
		}
	}
	is := func(kinds ...int) bool { return slices.Contains(kinds, c.Kind) }
	say(!is(1, 2, 3, 4, 5), "kind")
	say(!is(2) && c.Tag != "", "tag of another")
	say(!is(2) && len(c.Fields) > 0, "fields of another")
	say(!is(1) && len(c.Parts) > 0, "parts of another")
	say(is(1, 2) && len(c.Exprs) > 0, "exprs of another")
	say(is(1) && len(c.Kids) > 0, "kids of a text")
	say(!is(3) && len(c.Else) > 0, "else of another")
	say(is(1) && len(c.Parts) == 0, "no parts")
	say(is(2) && !askedTag(c.Tag), "tag")
	say(is(3) && len(c.Exprs) != 1, "test")
	say(is(4) && len(c.Exprs) != 2, "list and key")
	say(is(4) && (len(c.Kids) != 1 || c.Kids[0].Kind != 2), "body")
	for k, p := range c.Parts {
		say(!p.Bound && p.Plain == "", "empty part")
		say(k > 0 && !p.Bound && !c.Parts[k-1].Bound, "plain parts side by side")
		askedContent(say, p.Plain, p.Bound, p.Expr)
	}
	for k, f := range c.Fields {
		say(!askedTag(f.Name), "name")
		say(k > 0 && strings.Compare(c.Fields[k-1].Name, f.Name) >= 0, "row of fields")
		say(f.At != 0, "place")
		askedContent(say, f.Plain, f.Bound, f.Expr)
	}
	return words
}

func askedContent(say func(bool, string), plain string, bound bool, e api.Expr) {
	say(bound && plain != "", "plain and bound")
	say(!bound && (e.Op != 0 || e.Int != 0 || e.Str != "" || len(e.Kids) != 0), "an expression of a plain one")
	say(!utf8.ValidString(plain), "utf-8")
	say(len(plain) > 4096, "long")
}

func askedTag(s string) bool {
	return s != "" && len(s) <= 32 && s[0] >= 'a' && s[0] <= 'z' && allOf(s, "abcdefghijklmnopqrstuvwxyz0123456789-")
}

func askedName(s string) bool {
	return s != "" && len(s) <= 32 && s[0] >= 'a' && s[0] <= 'z' && allOf(s, "abcdefghijklmnopqrstuvwxyz0123456789_")
}

func allOf(s, letters string) bool {
	for i := range len(s) {
		if strings.IndexByte(letters, s[i]) < 0 {
			return false
		}
	}
	return true
}

// askedExprs are the expressions of a node: its own first, then those of fields and parts.
func askedExprs(c api.Core) []api.Expr {
	out := slices.Clone(c.Exprs)
	for _, f := range c.Fields {
		if f.Bound {
			out = append(out, f.Expr)
		}
	}
	for _, p := range c.Parts {
		if p.Bound {
			out = append(out, p.Expr)
		}
	}
	return out
}

// leaves are all nodes of an expression.
func leaves(e api.Expr) []api.Expr {
	var out []api.Expr
	var gather func(e api.Expr)
	gather = func(e api.Expr) {
		out = append(out, e)
		for _, kid := range e.Kids {
			gather(kid)
		}
	}
	gather(e)
	return out
}

func askedPieces(c api.Core) int {
	n := 1 + len(c.Fields) + len(c.Parts) + len(c.Exprs)
	for _, e := range askedExprs(c) {
		n += len(leaves(e))
	}
	return n
}

// askedKids are the kids of each Op, from ENull on.
var askedKids = []int{0, 0, 0, 0, 0, 0, 1, 2, 1, 1, 1, 2, 2, 2, 2, 2, 2, 2, 2, 2, 2, 2, 2, 2, 2, 2, 2, 2, 2, 2, 3}

// askedResolved tells whether an expression may be, but for the places of its EVars.
func askedResolved(e api.Expr) bool {
	all := leaves(e)
	for _, n := range all {
		if n.Op < 1 || n.Op > 31 || len(n.Kids) != askedKids[n.Op-1] {
			return false
		}
		fine := n.Int == 0 && n.Str == ""
		switch n.Op {
		case api.EInt:
			fine = n.Int > -1 && n.Str == ""
		case api.EStr:
			fine = n.Int == 0 && utf8.ValidString(n.Str) && len(n.Str) < 4097
		case api.EVar:
			fine = n.Str == ""
		case api.EField:
			fine = n.Int == 0 && askedName(n.Str)
		case api.ECall:
			fine = n.Str == "" && 0 < n.Int && n.Int < 9
		}
		if !fine {
			return false
		}
	}
	return len(all) <= 1024
}

// askedLoops is of a core that may be.
func askedLoops(all []flat) int {
	most := 0
	for i, n := range all {
		loops := one(all[i].Kind == api.CFor)
		for _, k := range n.around {
			loops += one(all[k].Kind == api.CFor)
		}
		most = max(most, loops)
	}
	return most
}

// askedStatics is of a core that may be: an element is static, if in it and among all that lies in it there is nothing but elements and texts, and nothing bound.
func askedStatics(all []flat) []int {
	isStatic := func(i int) bool {
		if all[i].Kind != api.CElem {
			return false
		}
		for _, n := range all[i:all[i].end] {
			if n.Kind != api.CElem && n.Kind != api.CText || len(askedExprs(n.Core)) > 0 {
				return false
			}
		}
		return true
	}
	var out []int
	for i, n := range all {
		if isStatic(i) && !slices.ContainsFunc(n.around, isStatic) {
			out = append(out, i)
		}
	}
	return out
}
