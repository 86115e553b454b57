package model

import (
	"fmt"
	"reflect"
	"slices"
	"testing"

	"stencil/api"
	"stencil/core"
	"stencil/forest"
	"stencil/origin"
	"stencil/patch"
	"stencil/render"
)

// The document said a second time: no arena is changed here. Which handle a node has is told by its origin and the free list alone, and the cells are written anew behind each call, from the rendering.

// asked is what a model must be.
type asked struct {
	cores   []api.Core
	room    int
	mounted bool
	spots   []api.Spot
	loops   []api.Loop
	// handles are those of the spots.
	handles []int
	free    []int
	counts  api.Counts
	state   api.Value
}

func askedNew(cs []api.Core, room int) (*asked, api.Errno) {
	if code := core.Check(cs); code != api.OK {
		return nil, code
	}
	if room < 1 || room > api.MaxRoom {
		return nil, api.ErrModelRoom
	}
	m := &asked{cores: cs, room: room}
	for handle := 1; handle < room; handle++ {
		m.free = append(m.free, handle)
	}
	return m, api.OK
}

// take is Mount, if the model must be bare, else Update.
func (m *asked) take(v api.Value, bare bool) api.Errno {
	if bare && m.mounted {
		return api.ErrModelMounted
	}
	if !bare && !m.mounted {
		return api.ErrModelBare
	}
	spots, loops, code := origin.Trace(m.cores, v)
	if code != api.OK {
		return code
	}
	if len(spots) > m.room-1 {
		return api.ErrModelFull
	}
	plan, code := patch.Least(m.spots, m.loops, spots, loops)
	if code != api.OK {
		panic("two renderings of one core have no least patch")
	}
	m.bring(spots, plan.Counts)
	m.mounted, m.spots, m.loops, m.state = true, spots, loops, v
	return api.OK
}

// bring lets go what is in no spot's origin, and gives those that had no handle one.
func (m *asked) bring(spots []api.Spot, grown api.Counts) {
	stays := func(old api.Spot) bool {
		return slices.ContainsFunc(spots, func(spot api.Spot) bool { return spot.Origin == old.Origin })
	}
	for i, old := range m.spots {
		if !stays(old) && (old.Parent == -1 || stays(m.spots[old.Parent])) {
			m.letGo(i)
		}
	}
	var handles []int
	for _, spot := range spots {
		at := slices.IndexFunc(m.spots, func(old api.Spot) bool { return spot.Origin == old.Origin })
		if at >= 0 {
			handles = append(handles, m.handles[at])
			continue
		}
		handles = append(handles, m.free[0])
		m.free = m.free[1:]
	}
	m.handles = handles
	m.counts = sum(m.counts, grown)
}

// letGo puts the handles of the spot at that place and of those below it ahead of all that are free.
func (m *asked) letGo(top int) {
	inside, freed := map[int]int{top: 1}, []int{m.handles[top]}
	for i := top + 1; i < len(m.spots); i++ {
		if inside[m.spots[i].Parent] == 1 {
			inside[i] = 1
			freed = append(freed, m.handles[i])
		}
	}
	m.free = slices.Concat(freed, m.free)
}

func (m *asked) unmount() api.Errno {
	if !m.mounted {
		return api.ErrModelBare
	}
	for i, spot := range m.spots {
		if spot.Parent == -1 {
			m.letGo(i)
			m.counts.Removed++
		}
	}
	m.counts.Freed += len(m.spots)
	m.mounted, m.spots, m.loops, m.handles = false, nil, nil, nil
	return api.OK
}

func sum(a, b api.Counts) api.Counts {
	return api.Counts{Created: a.Created + b.Created, Placed: a.Placed + b.Placed, Moved: a.Moved + b.Moved, Removed: a.Removed + b.Removed, Freed: a.Freed + b.Freed, Attrs: a.Attrs + b.Attrs, Texts: a.Texts + b.Texts}
}

// cells are the root's and those of the spots, by their handles.
func (m *asked) cells() []api.Cell {
	cells := make([]api.Cell, m.room)
	cells[0] = m.cell(-1, api.Spot{Parent: -1})
	for i, spot := range m.spots {
		cells[m.handles[i]] = m.cell(i, spot)
	}
	return cells
}

// cell is that of the spot at that place, with its links: its kids are the first and the last that it is the parent of, its neighbours those of its parent that stand next.
func (m *asked) cell(place int, spot api.Spot) api.Cell {
	c := api.Cell{Live: true, Tag: spot.Tag, Text: spot.Text, Attrs: spot.Attrs, Parent: -1, First: -1, Last: -1, Prev: -1, Next: -1}
	if place >= 0 {
		c.Parent = 0
		if spot.Parent >= 0 {
			c.Parent = m.handles[spot.Parent]
		}
	}
	for i, other := range m.spots {
		if other.Parent == place {
			if c.First == -1 {
				c.First = m.handles[i]
			}
			c.Last = m.handles[i]
		}
		if place >= 0 && other.Parent == spot.Parent {
			if i < place {
				c.Prev = m.handles[i]
			}
			if i > place && c.Next == -1 {
				c.Next = m.handles[i]
			}
		}
	}
	return c
}

// picture is all that can be seen of a model.
type picture struct {
	cells  []api.Cell
	free   []int
	counts api.Counts
	forest string
}

// flat is the same list for none and an empty one.
func flat[T any](list []T) []T {
	return append([]T{}, list...)
}

func pictured(cells []api.Cell, free []int, counts api.Counts, fs []api.Tree) picture {
	cells = flat(cells)
	for i := range cells {
		cells[i].Attrs = flat(cells[i].Attrs)
	}
	html, code := forest.Html(fs)
	return picture{cells, flat(free), counts, fmt.Sprint(html, code, forest.Count(fs))}
}

func pictureOf(x *Model) picture {
	return pictured(x.Cells(), x.Free(), x.Counts(), x.Forest())
}

// picture has Render's forest of the last state that was taken.
func (m *asked) picture() picture {
	var fs []api.Tree
	if m.mounted {
		fs, _ = render.Render(m.cores, m.state)
	}
	return pictured(m.cells(), m.free, m.counts, fs)
}

// twin is a model and what it must be.
type twin struct {
	x *Model
	m *asked
}

func newTwin(t *testing.T, cs []api.Core, room int) twin {
	t.Helper()
	x, code := New(cs, room)
	m, want := askedNew(cs, room)
	if code != want || (x == nil) != (m == nil) {
		t.Fatalf("New(%s, %d): %d, want %d", cut(cs), room, code, want)
	}
	w := twin{x, m}
	if x != nil {
		w.expect(t, "New")
	}
	return w
}

// expect holds that all that can be seen is as it must be.
func (w twin) expect(t *testing.T, behind string) {
	t.Helper()
	if got, want := pictureOf(w.x), w.m.picture(); !reflect.DeepEqual(got, want) {
		t.Fatalf("behind %s of %s:\n%s\nwant\n%s", behind, cut(w.m.cores), cut(got), cut(want))
	}
}

func (w twin) mount(t *testing.T, v api.Value) api.Errno {
	t.Helper()
	return w.done(t, "Mount", w.x.Mount(v), w.m.take(v, true))
}

func (w twin) update(t *testing.T, v api.Value) api.Errno {
	t.Helper()
	return w.done(t, "Update", w.x.Update(v), w.m.take(v, false))
}

func (w twin) unmount(t *testing.T) api.Errno {
	t.Helper()
	return w.done(t, "Unmount", w.x.Unmount(), w.m.unmount())
}

func (w twin) done(t *testing.T, name string, code, want api.Errno) api.Errno {
	t.Helper()
	if code != want {
		t.Fatalf("%s of %s: %d, want %d", name, cut(w.m.cores), code, want)
	}
	w.expect(t, name)
	return code
}

// cut is what fits into a message.
func cut(x any) string {
	return fmt.Sprintf("%.1500s", fmt.Sprintf("%+v", x))
}
