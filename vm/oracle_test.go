package vm

import (
	"fmt"
	"reflect"
	"slices"
	"strings"
	"testing"

	"stencil/api"
	"stencil/code"
	"stencil/forest"
	"stencil/value"
	"stencil/verify"
)

// The document said a second time: no arena is changed here, and there are no instances. What stands is told by paths: those of the blocks that stand, and of each node one that says which operation of which block made it, for which keys. A node is kept, if its path stood and stands. The cells are written anew behind each call, from all nodes.

// spot is a node by itself; parent is the place of its parent, or -1.
type spot struct {
	path      string
	parent    int
	tag, text string
	attrs     []api.Attr
}

// scene is what stands.
type scene struct {
	spots []spot
	// blocks are the paths of the blocks that stand, loops those of the OpFors that were done.
	blocks map[string]int
	loops  map[string][]api.Key
}

// asked is what a machine must be.
type asked struct {
	p       api.Program
	room    int
	mounted bool
	scene
	// handles are those of the spots.
	handles map[string]int
	free    []int
	counts  api.Counts
}

func askedNew(p api.Program, room int) (*asked, api.Errno) {
	if _, _, code := verify.Verify(p); code != api.OK {
		return nil, code
	}
	if room < 1 || room > 8192 {
		return nil, api.ErrVmRoom
	}
	m := &asked{p: p, room: room}
	for handle := 1; handle < room; handle++ {
		m.free = append(m.free, handle)
	}
	return m, api.OK
}

// take is Mount, if the machine must be bare, else Update.
func (m *asked) take(v api.Value, bare bool) api.Errno {
	if bare && m.mounted {
		return api.ErrVmMounted
	}
	if !bare && !m.mounted {
		return api.ErrVmBare
	}
	if code := value.Check(v); code != api.OK {
		return code
	}
	w := stroll{p: m.p, old: m.scene, scene: scene{blocks: map[string]int{}, loops: map[string][]api.Key{}}}
	if code := w.block("", 0, []api.Value{v}); code != api.OK {
		return code
	}
	if len(w.spots) > m.room-1 {
		return api.ErrVmFull
	}
	m.bring(w.scene)
	m.mounted = true
	return api.OK
}

// stroll goes through the blocks, and tells what will stand.
type stroll struct {
	p   api.Program
	old scene
	scene
	// open are the places of the open elements.
	open []int
}

// block goes through the operations of a block, from each to all that is behind it.
func (w *stroll) block(path string, number int, stack []api.Value) api.Errno {
	w.blocks[path] = number
	for place, op := range w.p.Blocks[number].Ops {
		next, code := w.op(path, number, place, op, stack)
		if code != api.OK {
			return code
		}
		stack = next
	}
	return api.OK
}

// op answers the stack that lies behind the operation.
func (w *stroll) op(path string, number, place int, op api.Op, stack []api.Value) ([]api.Value, api.Errno) {
	_, stood := w.old.blocks[path]
	left := stood && !slices.Contains(w.p.Blocks[number].Update, place)
	path = fmt.Sprintf("%s/%d", path, place)
	code := api.OK
	switch op.Kind {
	case api.OpText:
		code = w.add(spot{path: path, text: w.p.Texts[op.A]})
	case api.OpTextX:
		code = w.text(path, op, left, stack)
	case api.OpOpen:
		if code = w.add(spot{path: path, tag: w.p.Texts[op.A]}); code == api.OK {
			w.open = append(w.open, len(w.spots)-1)
		}
	case api.OpAttr:
		w.attr(op, w.p.Texts[op.B])
	case api.OpAttrX:
		code = w.bound(op, left, stack)
	case api.OpClose:
		w.open = w.open[:len(w.open)-1]
	case api.OpStatic:
		code = w.static(path, w.p.Statics[op.A])
	case api.OpIf:
		code = w.choose(path, op, left, stack)
	case api.OpFor:
		code = w.loop(path, op, left, stack)
	case api.OpWith:
		code = w.with(path, op, left, stack)
	case api.OpLet:
		var v api.Value
		v, code = w.run(op.A, stack)
		stack = append(slices.Clone(stack), v)
	case api.OpDrop:
		stack = stack[:len(stack)-op.A]
	}
	return stack, code
}

func (w *stroll) run(number int, stack []api.Value) (api.Value, api.Errno) {
	return code.Run(w.p.Codes[number], w.p.Texts, stack)
}

// add sets a spot into the innermost open element.
func (w *stroll) add(s spot) api.Errno {
	if len(w.spots)+1 > 4096 {
		return api.ErrVmLarge
	}
	s.parent = w.inside()
	w.spots = append(w.spots, s)
	return api.OK
}

func (w *stroll) inside() int {
	if len(w.open) == 0 {
		return -1
	}
	return w.open[len(w.open)-1]
}

// stood is the old spot of a path.
func (w *stroll) stood(path string) spot {
	return w.old.spots[slices.IndexFunc(w.old.spots, func(s spot) bool { return s.path == path })]
}

func (w *stroll) text(path string, op api.Op, left bool, stack []api.Value) api.Errno {
	if left {
		// It may be one too many all the same.
		return w.add(spot{path: path, text: w.stood(path).text})
	}
	if len(w.spots)+1 > 4096 {
		return api.ErrVmLarge
	}
	v, code := w.run(op.A, stack)
	if code != api.OK {
		return code
	}
	text, code := value.Text(v)
	if code != api.OK {
		return api.ErrEvalType
	}
	return w.add(spot{path: path, text: text})
}

func (w *stroll) attr(op api.Op, content string) {
	element := &w.spots[w.inside()]
	element.attrs = append(element.attrs, api.Attr{Name: w.p.Texts[op.A], Value: content})
}

func (w *stroll) bound(op api.Op, left bool, stack []api.Value) api.Errno {
	if left {
		for _, attr := range w.stood(w.spots[w.inside()].path).attrs {
			if attr.Name == w.p.Texts[op.A] {
				w.attr(op, attr.Value)
			}
		}
		return api.OK
	}
	v, code := w.run(op.B, stack)
	switch {
	case code != api.OK:
		return code
	case v.Kind == api.KList || v.Kind == api.KRec:
		return api.ErrEvalType
	case v.Kind == api.KNull || v.Kind == api.KBool && !v.Bool:
	case v.Kind == api.KBool:
		w.attr(op, "")
	default:
		text, _ := value.Text(v)
		w.attr(op, text)
	}
	return api.OK
}

// static sets all nodes of a tree, if there is room for them.
func (w *stroll) static(path string, tree api.Tree) api.Errno {
	if len(w.spots)+forest.Count([]api.Tree{tree}) > 4096 {
		return api.ErrVmLarge
	}
	first, open := len(w.spots), w.open
	var each func(tree api.Tree)
	each = func(tree api.Tree) {
		at := len(w.spots)
		w.add(spot{path: fmt.Sprintf("%s.%d", path, at-first), tag: tree.Tag, text: tree.Text, attrs: tree.Attrs})
		for _, kid := range tree.Kids {
			w.open = append(slices.Clone(open), at)
			each(kid)
		}
	}
	each(tree)
	w.open = open
	return api.OK
}

// leave takes over all that lies behind a path.
func (w *stroll) leave(path string) api.Errno {
	var all []int
	for i, s := range w.old.spots {
		if strings.HasPrefix(s.path, path) {
			all = append(all, i)
		}
	}
	if len(w.spots)+len(all) > 4096 {
		return api.ErrVmLarge
	}
	now := map[int]int{}
	for _, i := range all {
		s := w.old.spots[i]
		parent, moved := now[s.parent]
		if !moved {
			parent = w.inside()
		}
		s.parent = parent
		now[i] = len(w.spots)
		w.spots = append(w.spots, s)
	}
	for other, number := range w.old.blocks {
		if strings.HasPrefix(other, path) {
			w.blocks[other] = number
		}
	}
	for other, keys := range w.old.loops {
		if strings.HasPrefix(other, path) {
			w.loops[other] = keys
		}
	}
	return api.OK
}

func (w *stroll) choose(path string, op api.Op, left bool, stack []api.Value) api.Errno {
	path += "?"
	if left {
		return w.leave(path)
	}
	v, code := w.run(op.A, stack)
	switch {
	case code != api.OK:
		return code
	case v.Kind != api.KBool:
		return api.ErrEvalType
	case v.Bool && op.B > 0:
		return w.block(path+"yes", op.B, stack)
	case !v.Bool && op.C > 0:
		return w.block(path+"no", op.C, stack)
	}
	return api.OK
}

// within is the stack of an element.
func within(stack []api.Value, list api.Value, i int) []api.Value {
	return append(slices.Clone(stack), list.List[i], api.Value{Kind: api.KInt, Int: i})
}

func (w *stroll) loop(path string, op api.Op, left bool, stack []api.Value) api.Errno {
	path += "#"
	if left {
		return w.leave(path)
	}
	list, code := w.run(op.A, stack)
	if code != api.OK {
		return code
	}
	if list.Kind != api.KList {
		return api.ErrEvalType
	}
	var keys []api.Key
	for i := range list.List {
		v, code := w.run(op.B, within(stack, list, i))
		if code != api.OK {
			return code
		}
		if v.Kind != api.KInt && v.Kind != api.KStr {
			return api.ErrEvalType
		}
		key := api.Key{Kind: v.Kind, Int: v.Int, Str: v.Str}
		if slices.Contains(keys, key) {
			return api.ErrVmKey
		}
		keys = append(keys, key)
	}
	w.loops[path] = keys
	for i, key := range keys {
		if code := w.block(fmt.Sprintf("%s%d,%d,%q", path, key.Kind, key.Int, key.Str), op.C, within(stack, list, i)); code != api.OK {
			return code
		}
	}
	return api.OK
}

func (w *stroll) with(path string, op api.Op, left bool, stack []api.Value) api.Errno {
	path += "+"
	if left {
		return w.leave(path)
	}
	inner := slices.Clone(stack)
	for _, number := range op.List {
		v, code := w.run(number, stack)
		if code != api.OK {
			return code
		}
		inner = append(inner, v)
	}
	return w.block(path, op.C, inner)
}

// paths tells where each spot stands.
func (s scene) paths() map[string]int {
	out := map[string]int{}
	for i, one := range s.spots {
		out[one.path] = i
	}
	if len(out) != len(s.spots) {
		panic("two spots have one path")
	}
	return out
}

// bring lets go what has no path any more, and gives those that had no handle one.
func (m *asked) bring(now scene) {
	before, after := m.paths(), now.paths()
	for i, s := range m.spots {
		if _, stays := after[s.path]; !stays {
			m.counts.Freed++
			if top(m.spots, s, after) {
				m.letGo(i)
			}
		}
	}
	handles := map[string]int{}
	for _, s := range now.spots {
		at, stood := before[s.path]
		if stood {
			handles[s.path] = m.handles[s.path]
			m.counts.Texts += differ(m.spots[at].text == s.text)
			m.counts.Attrs += attrsDiffer(m.spots[at].attrs, s.attrs)
			continue
		}
		handles[s.path] = m.free[0]
		m.free = m.free[1:]
		m.counts.Created++
		if top(now.spots, s, before) {
			m.counts.Placed++
		}
	}
	for path, keys := range now.loops {
		m.counts.Moved += leastMoves(m.loops[path], keys)
	}
	m.scene, m.handles = now, handles
}

// top tells whether a spot is in none, or in one that the others have too.
func top(spots []spot, s spot, others map[string]int) bool {
	if s.parent == -1 {
		return true
	}
	_, both := others[spots[s.parent].path]
	return both
}

func differ(same bool) int {
	if same {
		return 0
	}
	return 1
}

// attrsDiffer is how many attributes are in one list alone, and are not the other's one of that name twice over.
func attrsDiffer(olds, news []api.Attr) int {
	names := map[string]int{}
	for i, list := range [][]api.Attr{olds, news} {
		for _, attr := range list {
			if !slices.Contains([][]api.Attr{news, olds}[i], attr) {
				names[attr.Name] = 1
			}
		}
	}
	return len(names)
}

// leastMoves is k - L of two lists of keys.
func leastMoves(olds, news []api.Key) int {
	stood := map[api.Key]int{}
	for i, key := range olds {
		stood[key] = i
	}
	var row, lengths []int
	longest := 0
	for _, key := range news {
		place, stays := stood[key]
		if !stays {
			continue
		}
		length := 1
		for i, other := range row {
			if other < place {
				length = max(length, lengths[i]+1)
			}
		}
		row, lengths = append(row, place), append(lengths, length)
		longest = max(longest, length)
	}
	return len(row) - longest
}

// letGo puts the handles of the spot at that place and of those below it ahead of all that are free.
func (m *asked) letGo(at int) {
	m.counts.Removed++
	inside, freed := map[int]int{at: 1}, []int{m.handles[m.spots[at].path]}
	for i := at + 1; i < len(m.spots); i++ {
		if inside[m.spots[i].parent] == 1 {
			inside[i] = 1
			freed = append(freed, m.handles[m.spots[i].path])
		}
	}
	m.free = slices.Concat(freed, m.free)
}

func (m *asked) unmount() api.Errno {
	if !m.mounted {
		return api.ErrVmBare
	}
	m.bring(scene{})
	m.mounted = false
	return api.OK
}

// cells are the root's and those of the spots, by their handles.
func (m *asked) cells() []api.Cell {
	cells := make([]api.Cell, m.room)
	rows := map[int][]int{}
	cells[0] = api.Cell{Live: true, Parent: -1, First: -1, Last: -1, Prev: -1, Next: -1}
	for i, s := range m.spots {
		cells[m.handles[s.path]] = api.Cell{Live: true, Tag: s.tag, Text: s.text, Attrs: s.attrs, Parent: m.handle(s.parent), First: -1, Last: -1, Prev: -1, Next: -1}
		rows[s.parent] = append(rows[s.parent], i)
	}
	for parent, row := range rows {
		for at, i := range row {
			if at > 0 {
				cells[m.handle(i)].Prev = m.handle(row[at-1])
			}
			if at+1 < len(row) {
				cells[m.handle(i)].Next = m.handle(row[at+1])
			}
		}
		cells[m.handle(parent)].First, cells[m.handle(parent)].Last = m.handle(row[0]), m.handle(row[len(row)-1])
	}
	return cells
}

func (m *asked) handle(place int) int {
	if place == -1 {
		return 0
	}
	return m.handles[m.spots[place].path]
}

// trees are those of the spots whose parent is at that place.
func (m *asked) trees(parent int) []api.Tree {
	var out []api.Tree
	for i, s := range m.spots {
		if s.parent == parent {
			tree := api.Tree{Tag: s.tag, Text: s.text, Attrs: s.attrs}
			if s.tag != "" {
				tree.Kids = m.trees(i)
			}
			out = append(out, tree)
		}
	}
	return out
}

// picture is all that can be seen of a machine.
type picture struct {
	cells  []api.Cell
	free   []int
	counts api.Counts
	forest string
}

// flat is the same list for none and an empty one.
func flat[T any](list []T) []T {
	return append([]T{}, list...)
}

func pictured(cells []api.Cell, free []int, counts api.Counts, fs []api.Tree) picture {
	cells = flat(cells)
	for i := range cells {
		cells[i].Attrs = flat(cells[i].Attrs)
	}
	html, code := forest.Html(fs)
	return picture{cells, flat(free), counts, fmt.Sprint(html, code, forest.Count(fs))}
}

func pictureOf(x *Vm) picture {
	return pictured(x.Cells(), x.Free(), x.Counts(), x.Forest())
}

func (m *asked) picture() picture {
	return pictured(m.cells(), m.free, m.counts, m.trees(-1))
}

// twin is a machine and what it must be.
type twin struct {
	x *Vm
	m *asked
}

func newTwin(t *testing.T, p api.Program, room int) twin {
	t.Helper()
	x, code := New(p, room)
	m, want := askedNew(p, room)
	if code != want || (x == nil) != (m == nil) {
		t.Fatalf("New(%s, %d): %d, want %d", cut(p), room, code, want)
	}
	w := twin{x, m}
	if x != nil {
		w.expect(t, "New")
	}
	return w
}

// expect holds that all that can be seen is as it must be.
func (w twin) expect(t *testing.T, behind string) {
	t.Helper()
	if got, want := pictureOf(w.x), w.m.picture(); !reflect.DeepEqual(got, want) {
		t.Fatalf("behind %s of %s:\n%s\nwant\n%s", behind, cut(w.m.p), cut(got), cut(want))
	}
}

func (w twin) mount(t *testing.T, v api.Value) api.Errno {
	t.Helper()
	return w.done(t, "Mount", w.x.Mount(v), w.m.take(v, true))
}

func (w twin) update(t *testing.T, v api.Value) api.Errno {
	t.Helper()
	return w.done(t, "Update", w.x.Update(v), w.m.take(v, false))
}

func (w twin) unmount(t *testing.T) api.Errno {
	t.Helper()
	return w.done(t, "Unmount", w.x.Unmount(), w.m.unmount())
}

func (w twin) done(t *testing.T, name string, code, want api.Errno) api.Errno {
	t.Helper()
	if code != want {
		t.Fatalf("%s of %s: %d, want %d", name, cut(w.m.p), code, want)
	}
	w.expect(t, name)
	return code
}

// cut is what fits into a message.
func cut(x any) string {
	return fmt.Sprintf("%.2500s", fmt.Sprintf("%+v", x))
}
