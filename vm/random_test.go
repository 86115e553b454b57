package vm

import (
	"fmt"
	"math/rand"
	"strconv"
	"strings"
	"testing"

	"stencil/api"
)

// maker makes states, and programs that fit them, but for off in a hundred of what they ask for; still in a hundred of their operations are not listed.
type maker struct {
	*rand.Rand
	off, still int
}

func newMaker(seed int64) *maker { return &maker{Rand: rand.New(rand.NewSource(seed))} }

func (m *maker) chance(n int) bool { return m.Intn(n) == 0 }

func (m *maker) word(those ...string) string { return those[m.Intn(len(those))] }

// either is the one that fits, but for off in a hundred.
func (m *maker) either(fits string, others ...string) string {
	if m.Intn(100) < m.off {
		return m.word(others...)
	}
	return fits
}

// record has a bool b, values v and w, a key k, always the same for a number, and lists l and m of records, while there is room.
func (m *maker) record(room, number int) string {
	key := strconv.Itoa(number / 2)
	if number%2 == 1 {
		key = `"k` + key + `"`
	}
	return fmt.Sprintf(`{"b": %v, "v": %s, "w": %s, "k": %s, "l": %s, "m": %s}`, m.chance(2), m.either(m.word(`"x"`, `null`, `7`, `"7"`, `true`, `"é<"`), `[]`), m.word(`0`, `0`, `""`), m.either(key, `null`, `0`), m.records(room), m.records(room))
}

func (m *maker) records(room int) string {
	var out []string
	if room > 0 {
		for _, number := range m.Perm(5)[:min(m.Intn(9), 5)] {
			out = append(out, m.record(room-1, number))
		}
	}
	return "[" + strings.Join(out, ", ") + "]"
}

// program is one whose state is a record.
func (m *maker) program(deep int) api.Program { return programOf(m.row(deep, "r")...) }

// listed is a part of which each operation is listed or not.
func (m *maker) listed(one part) part {
	if m.Intn(100) < m.still {
		return quiet(one)
	}
	return one
}

// place is one of the stack that holds a record, if that is wanted, else a number or another value; kinds tells of each place which of these lies there.
func (m *maker) place(kinds string, want byte) (string, bool) {
	var those []string
	for i := range len(kinds) {
		if kinds[i] == want {
			those = append(those, "p"+strconv.Itoa(i))
		}
	}
	if len(those) == 0 {
		return "", false
	}
	return m.word(those...), true
}

// of is a field of a record of the stack.
func (m *maker) of(kinds string, fits string, others ...string) string {
	if len(others) > 0 {
		fits = m.either(fits, others...)
	}
	r, _ := m.place(kinds, 'r')
	return r + "." + fits
}

// shown is what has a text.
func (m *maker) shown(kinds string) string {
	if s, ok := m.place(kinds, 's'); ok && m.chance(2) {
		return s
	}
	return m.of(kinds, m.word("v", "w", "k", "b"), "l", "z")
}

// row is some parts, one behind the other, that leave the stack as it is.
func (m *maker) row(deep int, kinds string) []part {
	var out []part
	lets := 0
	for deep > 0 && !m.chance(4) && len(out) < 7 {
		switch n := m.Intn(12); {
		case n == 0:
			out = append(out, m.listed(let(m.shown(kinds))))
			kinds += "s"
			lets++
		case n == 1 && lets > 0:
			some := 1 + m.Intn(lets)
			out = append(out, m.listed(drop(some)))
			kinds = kinds[:len(kinds)-some]
			lets -= some
		default:
			out = append(out, m.part(deep-1, kinds))
		}
	}
	if lets > 0 {
		out = append(out, m.listed(drop(lets)))
	}
	return out
}

func (m *maker) part(deep int, kinds string) part {
	switch m.Intn(10) {
	case 0:
		return m.listed(text(m.word("x", "é", "")))
	case 1, 2:
		return m.listed(show(m.shown(kinds)))
	case 3:
		return m.listed(static(m.tree(2)))
	case 4, 5:
		return m.element(deep, kinds)
	case 6, 7:
		return m.listed(either(m.of(kinds, "b", "v"), m.block(deep, kinds), m.block(deep, kinds)))
	case 8:
		return m.listed(m.loop(deep, kinds))
	}
	var codes []string
	inner := kinds
	for range m.Intn(3) {
		if m.chance(2) {
			codes, inner = append(codes, m.shown(kinds)), inner+"s"
		} else {
			r, _ := m.place(kinds, 'r')
			codes, inner = append(codes, r), inner+"r"
		}
	}
	return m.listed(with(codes, m.row(deep, inner)...))
}

// block is none, empty, or some parts.
func (m *maker) block(deep int, kinds string) []part {
	switch m.Intn(5) {
	case 0:
		return nil
	case 1:
		return parts(quiet())
	}
	return m.row(deep, kinds)
}

func (m *maker) element(deep int, kinds string) part {
	var inside []part
	for _, name := range []string{"a", "b", "c"} {
		switch m.Intn(4) {
		case 0:
			inside = append(inside, m.listed(attr(name, m.word("", "y"))))
		case 1, 2:
			inside = append(inside, m.listed(bound(name, m.shown(kinds))))
		}
	}
	return elem(m.word("p", "q", "x-a"), append(inside, m.row(deep, kinds)...)...)
}

// tree is an element with some in it.
func (m *maker) tree(deep int) api.Tree {
	tree := api.Tree{Tag: m.word("s", "t")}
	if m.chance(3) {
		tree.Attrs = []api.Attr{{Name: "d", Value: m.word("", "z")}}
	}
	for range m.Intn(3) {
		if deep > 0 && m.chance(2) {
			tree.Kids = append(tree.Kids, m.tree(deep-1))
		} else {
			tree.Kids = append(tree.Kids, api.Tree{Text: m.word("", "u")})
		}
	}
	return tree
}

func (m *maker) loop(deep int, kinds string) part {
	element, number := "p"+strconv.Itoa(len(kinds)), "p"+strconv.Itoa(len(kinds)+1)
	key := m.either(m.word(element+".k", element+".k", element+".k", number), m.of(kinds, "k"), "null")
	list := m.of(kinds, m.word("l", "m"), "b")
	if m.chance(5) {
		return each(list, key, m.listed(static(m.tree(1))))
	}
	return each(list, key, m.element(deep, kinds+"rs"))
}

// run makes so many calls of any kind, in an arena into which not all states fit, and tells how often each code came.
func (m *maker) run(t *testing.T, w twin, calls int, state func() api.Value, met map[api.Errno]int) {
	t.Helper()
	for range calls {
		switch n := m.Intn(20); {
		case n == 0:
			met[w.unmount(t)]++
		case n == 1 || !w.m.mounted && n < 18:
			met[w.mount(t, state())]++
		default:
			met[w.update(t, state())]++
		}
	}
}

func sum(a, b api.Counts) api.Counts {
	return api.Counts{Created: a.Created + b.Created, Placed: a.Placed + b.Placed, Moved: a.Moved + b.Moved, Removed: a.Removed + b.Removed, Freed: a.Freed + b.Freed, Attrs: a.Attrs + b.Attrs, Texts: a.Texts + b.Texts}
}

// TestP23Random: random calls of machines of random programs that list all, some and none of their operations, with states that fit and states that do not.
func TestP23Random(t *testing.T) {
	for still, least := range map[int]int{0: 300, 30: 300, 100: 0} {
		t.Run(strconv.Itoa(still), func(t *testing.T) {
			t.Parallel()
			m, met, all := newMaker(230), map[api.Errno]int{}, api.Counts{}
			m.still = still
			for i := range 500 {
				m.off = i % 3
				w := newTwin(t, m.program(3+i%3), []int{4, 20, 60, 150, 500}[m.Intn(5)])
				m.run(t, w, 15, func() api.Value { return datum(t, m.record(1+i%2, 0)) }, met)
				all = sum(all, w.x.Counts())
			}
			for _, code := range []api.Errno{api.OK, api.ErrEvalType, api.ErrEvalPath, api.ErrVmKey, api.ErrVmFull, api.ErrVmBare, api.ErrVmMounted} {
				if met[code] < 10 {
					t.Errorf("few of %d: %v", code, met)
				}
			}
			if met[api.OK] < 2500 || min(all.Created, all.Placed, all.Removed, all.Freed) < 500 || min(all.Moved, all.Attrs, all.Texts) < least {
				t.Errorf("%v, %+v", met, all)
			}
		})
	}
}

// TestP23RandomLists: long lists, of which much is exchanged and moved at once.
func TestP23RandomLists(t *testing.T) {
	t.Parallel()
	m := newMaker(231)
	p := programOf(elem("b"), each("p0.l", "p1", elem("p", show("p1"))), text("z"), elem("ul", each("p0.m", "p1", elem("li", bound("a", "p2")))))
	w := newTwin(t, p, 700)
	row := func() string {
		return strings.ReplaceAll(strings.Trim(fmt.Sprint(m.Perm(150)[:m.Intn(150)]), "[]"), " ", ", ")
	}
	for i := range 40 {
		v := datum(t, `{"l": [`+row()+`], "m": [`+row()+`]}`)
		if i == 0 {
			w.mount(t, v)
		} else if code := w.update(t, v); code != api.OK {
			t.Fatal(code)
		}
	}
	if n := w.x.Counts(); n.Moved < 1000 || n.Attrs < 1000 || n.Placed < 500 || n.Removed < 500 {
		t.Errorf("%+v", n)
	}
}
