package session

import (
	"stencil/api"
	"stencil/check"
	"stencil/compile"
	"stencil/data"
	"stencil/syntax"
	"stencil/vm"
)

// first asks one behind the other, up to the first error.
func first(asks ...func() api.Errno) api.Errno {
	for _, ask := range asks {
		if code := ask(); code != api.OK {
			return code
		}
	}
	return api.OK
}

// building is what the layers have made of a template so far.
type building struct {
	text    string
	room    int
	options api.Options
	nodes   []api.Node
	cores   []api.Core
	program api.Program
	session *Session
	// at is the place of the error, if one is met.
	at int
}

func build(t string, room int, o api.Options) (building, api.Errno) {
	b := building{text: t, room: room, options: o}
	code := first(b.parse, b.check, b.compile, b.start)
	return b, code
}

func (b *building) parse() (code api.Errno) {
	b.nodes, b.at, code = syntax.Parse(b.text)
	return code
}

func (b *building) check() (code api.Errno) {
	b.cores, b.at, code = check.Check(b.nodes)
	return code
}

func (b *building) compile() (code api.Errno) {
	b.program, code = compile.Compile(b.cores, b.options)
	return code
}

func (b *building) start() api.Errno {
	machine, code := vm.New(b.program, b.room)
	if code != api.OK {
		return code
	}
	b.session = &Session{Vm: machine}
	return api.OK
}

// step is a session with the state that it is to show.
type step struct {
	*Session
	bytes []byte
	state api.Value
}

func (s *step) read() (code api.Errno) {
	s.state, _, code = data.Parse(s.bytes)
	return code
}

func (s *step) mount() api.Errno {
	code := s.Vm.Mount(s.state)
	s.mounted = code == api.OK
	return code
}

func (s *step) update() api.Errno {
	return s.Vm.Update(s.state)
}
