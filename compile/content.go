package compile

import (
	"stencil/api"
	"stencil/code"
)

// content is the operation that makes a text of parts.
func (c *compiler) content(parts []api.Part) api.Op {
	switch {
	case len(parts) > 1:
		return api.Op{Kind: api.OpTextX, A: c.joined(parts)}
	case parts[0].Bound:
		return api.Op{Kind: api.OpTextX, A: c.expression(parts[0].Expr)}
	}
	return api.Op{Kind: api.OpText, A: c.text(parts[0].Plain)}
}

// joined is the number of a code that comes to all parts as one text. Whether a part has a text, and whether all is too long with it, is asked ahead of the next part, so that of several errors the first one is met.
func (c *compiler) joined(parts []api.Part) int {
	var insts []api.Inst
	for i, part := range parts {
		insts = c.partBehind(insts, part)
		if i == 0 {
			insts = append(insts, api.Inst{Op: api.ICall, A: api.CallStr})
		} else {
			insts = append(insts, api.Inst{Op: api.ICat})
		}
	}
	return c.code(insts)
}

func (c *compiler) partBehind(ahead []api.Inst, part api.Part) []api.Inst {
	if part.Bound {
		return c.behind(ahead, part.Expr)
	}
	return append(ahead, api.Inst{Op: api.IStr, A: c.text(part.Plain)})
}

// expression is the number of a code that comes to what e comes to.
func (c *compiler) expression(e api.Expr) int {
	return c.code(c.behind(nil, e))
}

// behind sets the code of e behind other code: its jumps go as far as by itself, and its texts are the program's. It may be made, since core.Check took e.
func (c *compiler) behind(ahead []api.Inst, e api.Expr) []api.Inst {
	insts, texts, _ := code.Make(e)
	from := len(ahead)
	for _, inst := range insts {
		switch inst.Op {
		case api.IStr, api.IField:
			inst.A = c.text(texts[inst.A])
		case api.IBoth, api.IAny, api.IElse, api.IJump:
			inst.A += from
		}
		ahead = append(ahead, inst)
	}
	return ahead
}
