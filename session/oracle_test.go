package session

import (
	"slices"
	"testing"

	"stencil/api"
	"stencil/data"
	"stencil/forest"
	"stencil/origin"
	"stencil/render"
)

// asked is what the document asks of a session, said a second time: what each step answers by render, the arena by where each node came from (T1, T2, T4, T6).
type asked struct {
	cores   []api.Core
	room    int
	mounted bool
	spots   []api.Spot
	loops   []api.Loop
	handles []int // of each spot
	free    []int
	counts  api.Counts
}

func newAsked(cs []api.Core, room int) *asked {
	a := &asked{cores: cs, room: room}
	for handle := 1; handle < room; handle++ {
		a.free = append(a.free, handle)
	}
	return a
}

func (a *asked) mount(d []byte) api.Errno {
	if a.mounted {
		return api.ErrVmMounted
	}
	return a.take(d)
}

func (a *asked) update(d []byte) api.Errno {
	if !a.mounted {
		return api.ErrVmBare
	}
	return a.take(d)
}

func (a *asked) unmount() api.Errno {
	if !a.mounted {
		return api.ErrVmBare
	}
	a.bring(nil, nil)
	a.mounted = false
	return api.OK
}

func (a *asked) take(d []byte) api.Errno {
	v, _, code := data.Parse(d)
	if code != api.OK {
		return code
	}
	fs, code := render.Render(a.cores, v)
	switch {
	case code == api.ErrRenderKey:
		return api.ErrVmKey
	case code == api.ErrRenderLarge:
		return api.ErrVmLarge
	case code != api.OK:
		return code
	case forest.Count(fs) > a.room-1:
		return api.ErrVmFull
	}
	spots, loops, _ := origin.Trace(a.cores, v)
	a.bring(spots, loops)
	a.mounted = true
	return api.OK
}

// bring is the arena behind the least patch: what is in both keeps its handle, what is gone goes ahead of all that is free, what is new takes the first ones.
func (a *asked) bring(spots []api.Spot, loops []api.Loop) {
	olds, news := places(a.spots), places(spots)
	var freed []int
	for i := 0; i < len(a.spots); {
		if _, stays := news[a.spots[i].Origin]; stays {
			i++
			continue
		}
		behind := i + 1
		for behind < len(a.spots) && a.spots[behind].Parent >= i {
			behind++
		}
		freed = append(slices.Clone(a.handles[i:behind]), freed...)
		a.counts.Removed++
		a.counts.Freed += behind - i
		i = behind
	}
	a.free = append(freed, a.free...)
	var handles []int
	for _, spot := range spots {
		if old, stays := olds[spot.Origin]; stays {
			handles = append(handles, a.handles[old])
			a.set(a.spots[old], spot)
			continue
		}
		handles, a.free = append(handles, a.free[0]), a.free[1:]
		a.counts.Created++
		if spot.Parent < 0 {
			a.counts.Placed++
		} else if _, stays := olds[spots[spot.Parent].Origin]; stays {
			a.counts.Placed++
		}
	}
	a.counts.Moved += leastMoves(a.loops, loops)
	a.spots, a.loops, a.handles = spots, loops, handles
}

func places(spots []api.Spot) map[api.Origin]int {
	out := map[api.Origin]int{}
	for i, spot := range spots {
		out[spot.Origin] = i
	}
	return out
}

// set counts where a node that stays is not the same.
func (a *asked) set(old, spot api.Spot) {
	if old.Text != spot.Text {
		a.counts.Texts++
	}
	values := map[string][]string{}
	for _, attr := range old.Attrs {
		values[attr.Name] = append(values[attr.Name], attr.Value)
	}
	for _, attr := range spot.Attrs {
		values[attr.Name] = append(values[attr.Name], attr.Value)
	}
	for _, both := range values {
		if len(both) != 2 || both[0] != both[1] {
			a.counts.Attrs++
		}
	}
}

// leastMoves is k - L over the loops that stand in both.
func leastMoves(olds, news []api.Loop) int {
	standing := map[api.Origin][]api.Key{}
	for _, loop := range olds {
		standing[loop.Origin] = loop.Keys
	}
	sum := 0
	for _, loop := range news {
		at := map[api.Key]int{}
		for i, key := range standing[loop.Origin] {
			at[key] = i + 1
		}
		var row []int
		for _, key := range loop.Keys {
			if at[key] > 0 {
				row = append(row, at[key])
			}
		}
		sum += len(row) - longest(row)
	}
	return sum
}

// longest is how long a rising part of a row of different numbers can be: the heap whose top is the least one above is topped anew.
func longest(row []int) int {
	var tops []int
	for _, n := range row {
		at, _ := slices.BinarySearch(tops, n)
		tops = append(tops[:at], append([]int{n}, tops[min(at+1, len(tops)):]...)...)
	}
	return len(tops)
}

// picture is what the arena is then, cell by cell.
func (a *asked) picture() picture {
	cells := make([]api.Cell, a.room)
	cells[0] = api.Cell{Live: true, Parent: -1, First: -1, Last: -1, Prev: -1, Next: -1}
	for i, spot := range a.spots {
		parent := 0
		if spot.Parent >= 0 {
			parent = a.handles[spot.Parent]
		}
		handle, ahead := a.handles[i], cells[parent].Last
		cells[handle] = api.Cell{Live: true, Tag: spot.Tag, Text: spot.Text, Attrs: spot.Attrs, Parent: parent, First: -1, Last: -1, Prev: ahead, Next: -1}
		if ahead < 0 {
			cells[parent].First = handle
		} else {
			cells[ahead].Next = handle
		}
		cells[parent].Last = handle
	}
	fs := origin.Forest(a.spots)
	html, _ := forest.Html(fs)
	return picture{cells: cells, free: a.free, counts: a.counts, forest: fs, html: html}
}

// herd are a template's sessions in all settings, beside what is asked; and one to which the steps alone are given that are taken.
type herd struct {
	text     string
	asked    *asked
	sessions []*Session
	straight *Session
}

// newHerd is one of a template that may be.
func newHerd(t *testing.T, s string, room int) *herd {
	t.Helper()
	cs, at, code := cores(s)
	if code != api.OK {
		t.Fatalf("%d at %d: %s", code, at, cut(s))
	}
	return &herd{text: s, asked: newAsked(cs, room), sessions: all(t, s, room), straight: started(t, s, room, settings()[len(s)%8])}
}

// call makes one call of all: they answer what is asked, and are behind it what is asked.
func (h *herd) call(t *testing.T, what string, want api.Errno, call func(x *Session) api.Errno) api.Errno {
	t.Helper()
	behind := h.asked.picture()
	for i, x := range h.sessions {
		if got := call(x); got != want {
			t.Fatalf("%s: %d, want %d, %+v: %s", what, got, want, settings()[i], cut(h.text))
		}
		if got := pictureOf(x); !got.same(behind) {
			t.Fatalf("%s: %+v: %s\n%s\nwant\n%s", what, settings()[i], cut(h.text), cut(got), cut(behind))
		}
	}
	if want == api.OK {
		if got := call(h.straight); got != want || !pictureOf(h.straight).same(behind) {
			t.Fatalf("%s: %d: without the steps that were refused: %s\n%s\nwant\n%s", what, got, cut(h.text), cut(pictureOf(h.straight)), cut(behind))
		}
	}
	return want
}

func (h *herd) mount(t *testing.T, d string) api.Errno {
	t.Helper()
	return h.call(t, "mount "+cut(d), h.asked.mount([]byte(d)), func(x *Session) api.Errno { return x.Mount([]byte(d)) })
}

func (h *herd) update(t *testing.T, d string) api.Errno {
	t.Helper()
	return h.call(t, "update "+cut(d), h.asked.update([]byte(d)), func(x *Session) api.Errno { return x.Update([]byte(d)) })
}

func (h *herd) unmount(t *testing.T) api.Errno {
	t.Helper()
	return h.call(t, "unmount", h.asked.unmount(), (*Session).Unmount)
}

// take mounts, or updates what is mounted.
func (h *herd) take(t *testing.T, d string) api.Errno {
	t.Helper()
	if h.asked.mounted {
		return h.update(t, d)
	}
	return h.mount(t, d)
}
