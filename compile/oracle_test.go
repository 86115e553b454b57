package compile

import (
	"fmt"
	"reflect"
	"slices"
	"testing"

	"stencil/api"
	"stencil/core"
	"stencil/model"
	"stencil/render"
	"stencil/verify"
	"stencil/vm"
)

// flat are the nodes of a core in preorder.
func flat(cs []api.Core) []api.Core {
	var out []api.Core
	var lay func(cs []api.Core)
	lay = func(cs []api.Core) {
		for _, c := range cs {
			out = append(out, c)
			lay(c.Kids)
			lay(c.Else)
		}
	}
	lay(cs)
	return out
}

// tallied is how often each of a list of trees is there.
func tallied(trees []api.Tree) map[string]int {
	out := map[string]int{}
	for _, tree := range trees {
		out[fmt.Sprintf("%#v", tree)]++
	}
	return out
}

// stillTrees are what the static elements of a core are rendered as.
func stillTrees(cs []api.Core) []api.Tree {
	var out []api.Tree
	all := flat(cs)
	for _, number := range core.Statics(cs) {
		fs, _ := render.Render(all[number:number+1], api.Value{Kind: api.KNull})
		out = append(out, fs...)
	}
	return out
}

// expectForm compiles a core that may be, and asks of the program all that is not free.
func expectForm(t *testing.T, cs []api.Core, o api.Options) api.Program {
	t.Helper()
	p, fault := Compile(cs, o)
	if fault != api.OK {
		t.Fatalf("%+v: %d: %s", o, fault, cut(cs))
	}
	if block, place, fault := verify.Verify(p); fault != api.OK {
		t.Fatalf("%+v: %d in block %d at %d: %s\n%s", o, fault, block, place, cut(cs), cut(p))
	}
	var stills []api.Tree
	for number, block := range p.Blocks {
		var update []int
		for place, op := range block.Ops {
			switch {
			case op.Kind == api.OpStatic:
				stills = append(stills, p.Statics[op.A])
			case o.Inline && op.Kind == api.OpWith, !o.Inline && (op.Kind == api.OpLet || op.Kind == api.OpDrop):
				t.Fatalf("%+v: block %d has %+v: %s", o, number, op, cut(cs))
			}
			if !o.Flags || slices.Contains([]int{api.OpTextX, api.OpAttrX, api.OpIf, api.OpFor, api.OpWith}, op.Kind) {
				update = append(update, place)
			}
		}
		if !slices.Equal(block.Update, update) {
			t.Fatalf("%+v: block %d is updated at %v: %s", o, number, block.Update, cut(cs))
		}
	}
	var want []api.Tree
	if o.Hoist {
		want = stillTrees(cs)
	}
	if !reflect.DeepEqual(tallied(stills), tallied(want)) || !o.Hoist && len(p.Statics) > 0 {
		t.Fatalf("%+v: statics %s, want %s", o, cut(stills), cut(want))
	}
	return p
}

// expectForms asks this in all settings.
func expectForms(t *testing.T, cs []api.Core) {
	t.Helper()
	for _, o := range settings() {
		expectForm(t, cs, o)
	}
}

// asMachine is the machine's error in place of the model's.
func asMachine(fault api.Errno) api.Errno {
	switch fault {
	case api.ErrRenderKey:
		return api.ErrVmKey
	case api.ErrRenderLarge:
		return api.ErrVmLarge
	case api.ErrModelFull:
		return api.ErrVmFull
	case api.ErrModelMounted:
		return api.ErrVmMounted
	case api.ErrModelBare:
		return api.ErrVmBare
	}
	return fault
}

// arena is what a model and a machine have in common.
type arena interface {
	Mount(v api.Value) api.Errno
	Update(v api.Value) api.Errno
	Unmount() api.Errno
	Cells() []api.Cell
	Free() []int
	Counts() api.Counts
	Forest() []api.Tree
}

// twins are the model of a core, and the machines of its eight programs.
type twins struct {
	cs       []api.Core
	model    *model.Model
	machines []*vm.Vm
	mounted  bool
}

func newTwins(t *testing.T, cs []api.Core, room int) *twins {
	t.Helper()
	m, fault := model.New(cs, room)
	if fault != api.OK {
		t.Fatalf("%d: %s", fault, cut(cs))
	}
	w := &twins{cs: cs, model: m}
	for _, o := range settings() {
		one, fault := vm.New(expectForm(t, cs, o), room)
		if fault != api.OK {
			t.Fatalf("%+v: %d: %s", o, fault, cut(cs))
		}
		w.machines = append(w.machines, one)
	}
	return w
}

// call makes one call of all: they answer alike, and hold the same behind it.
func (w *twins) call(t *testing.T, what string, call func(a arena) api.Errno) api.Errno {
	t.Helper()
	want := asMachine(call(w.model))
	cells, free, counts := w.model.Cells(), w.model.Free(), w.model.Counts()
	for i, one := range w.machines {
		got := call(one)
		if got != want {
			t.Fatalf("%s: %d, want %d, %+v: %s", what, got, want, settings()[i], cut(w.cs))
		}
		if one.Counts() != counts || !slices.Equal(one.Free(), free) || !reflect.DeepEqual(one.Cells(), cells) {
			t.Fatalf("%s: %+v: %s\n%+v %s\nwant\n%+v %s", what, settings()[i], cut(w.cs), one.Counts(), cut(one.Cells()), counts, cut(cells))
		}
	}
	return want
}

func (w *twins) mount(t *testing.T, v api.Value) api.Errno {
	t.Helper()
	fault := w.call(t, "mount "+cut(v), func(a arena) api.Errno { return a.Mount(v) })
	w.mounted = w.mounted || fault == api.OK
	return fault
}

func (w *twins) update(t *testing.T, v api.Value) api.Errno {
	t.Helper()
	return w.call(t, "update "+cut(v), func(a arena) api.Errno { return a.Update(v) })
}

func (w *twins) unmount(t *testing.T) api.Errno {
	t.Helper()
	w.mounted = false
	return w.call(t, "unmount", arena.Unmount)
}

// take mounts, or updates what is mounted.
func (w *twins) take(t *testing.T, v api.Value) api.Errno {
	t.Helper()
	if w.mounted {
		return w.update(t, v)
	}
	return w.mount(t, v)
}
