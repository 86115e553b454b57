package reckon

import "stencil/api"

// Code is what code comes to (DOC.md, chapter 20), of such as may be run with these texts and this stack. The answer may share memory with the stack.
func Code(code []api.Inst, texts []string, stack []api.Value) (api.Value, api.Errno) {
	m := machine{texts: texts, stack: stack}
	return caught(func() api.Value { return m.run(code) })
}

// machine runs code; the top of its pile is the last one.
type machine struct {
	texts []string
	stack []api.Value
	pile  []api.Value
}

func (m *machine) run(code []api.Inst) api.Value {
	next := 0
running:
	for next < len(code) {
		inst := code[next]
		switch inst.Op {
		case api.IBoth, api.IAny:
			if m.settles(inst) {
				next = inst.A
				continue running
			}
		case api.IElse:
			if isTrue(m.take()) {
				break
			}
			fallthrough
		case api.IJump:
			next = inst.A
			continue running
		default:
			m.do(inst)
		}
		next++
	}
	return m.take()
}

// settles tells whether the top is what IBoth or IAny comes to; else it is taken.
func (m *machine) settles(inst api.Inst) bool {
	if isTrue(m.top()) == (inst.Op == api.IAny) {
		return true
	}
	m.take()
	return false
}

// do does an instruction behind which the next one follows.
func (m *machine) do(inst api.Inst) {
	switch inst.Op {
	case api.INull:
		m.put(api.Value{Kind: api.KNull})
	case api.IFalse, api.ITrue:
		m.put(truth(inst.Op == api.ITrue))
	case api.IInt:
		m.put(number(inst.A))
	case api.IStr:
		m.put(text(m.texts[inst.A]))
	case api.IVar:
		m.put(m.stack[inst.A])
	case api.IBool:
		isTrue(m.top())
	default:
		second := m.second(inst)
		// Up to IOther an instruction has the number of the Op that it does.
		m.put(pair(inst.Op, m.take(), second))
	}
}

// second is the second operand of a pair: not every instruction takes it from the pile.
func (m *machine) second(inst api.Inst) api.Value {
	switch inst.Op {
	case api.IField:
		return text(m.texts[inst.A])
	case api.ICall:
		return number(inst.A)
	case api.INeg, api.INot:
		return api.Value{}
	}
	return m.take()
}

func (m *machine) put(v api.Value) {
	m.pile = append(m.pile, v)
}

func (m *machine) top() api.Value {
	return m.pile[len(m.pile)-1]
}

func (m *machine) take() api.Value {
	v := m.top()
	m.pile = m.pile[:len(m.pile)-1]
	return v
}
