package patch

import (
	"cmp"
	"fmt"
	"math/rand"
	"slices"
	"strconv"
	"strings"
	"testing"

	"stencil/api"
)

// maker makes renderings that may be, and states.
type maker struct{ *rand.Rand }

func newMaker(seed int64) maker { return maker{rand.New(rand.NewSource(seed))} }

func (m maker) chance(n int) bool { return m.Intn(n) == 0 }

func (m maker) word(those ...string) string { return those[m.Intn(len(those))] }

// keys are some of most keys, no two the same, in any row.
func (m maker) keys(most int) []api.Key {
	var out []api.Key
	for _, i := range m.Perm(most)[:m.Intn(most+1)] {
		out = append(out, keyOf(sameWord(i)))
	}
	return out
}

// sameWord is the word of a number, always the same: of some an integer, of some a text.
func sameWord(i int) string {
	if i%2 == 0 {
		return strconv.Itoa(i / 2)
	}
	return "k" + strconv.Itoa(i/2)
}

// origins are some origins, no two the same, of so many nodes.
func (m maker) origins(nodes, most int) []api.Origin {
	met, out := map[api.Origin]int{}, []api.Origin{}
	for range m.Intn(most + 1) {
		o := api.Origin{Node: m.Intn(nodes), Loops: m.Intn(2) * m.Intn(3)}
		if m.chance(20) {
			o.Loops = m.Intn(api.MaxLoops + 1)
		}
		for i := range o.Loops {
			o.Keys[i] = keyOf(m.word("_", "0", "1", "k", "1"))
		}
		if met[o]++; met[o] == 1 {
			out = append(out, o)
		}
	}
	return out
}

func (m maker) attrs() []api.Attr {
	var out []api.Attr
	for _, name := range []string{"", "a", "b", "c", "d"} {
		if m.chance(2) {
			out = append(out, api.Attr{Name: name, Value: m.word("", "1", "1", "2")})
		}
	}
	return out
}

// rendering is one of so many nodes, of at most so many spots and loops; of what node a spot is tells its tag.
func (m maker) rendering(nodes, most int) shown {
	var r shown
	elements := []int{-1}
	for i, o := range m.origins(nodes, most) {
		spot := api.Spot{Origin: o, Parent: elements[m.Intn(len(elements))], Tag: []string{"", "p", "q"}[o.Node%3]}
		if spot.Tag == "" {
			spot.Text = m.word("", "x", "x", "y")
		} else {
			elements, spot.Attrs = append(elements, i), m.attrs()
		}
		r.spots = append(r.spots, spot)
	}
	for _, o := range m.origins(nodes, most/4) {
		r.loops = append(r.loops, api.Loop{Origin: o, Keys: m.keys(8)})
	}
	return r
}

// TestP18Random: renderings that may be, most of which share much.
func TestP18Random(t *testing.T) {
	t.Parallel()
	m, sum := newMaker(181), api.Counts{}
	kept, most := 0, 0
	for i := range 3000 {
		nodes, size := 1+i%12, 1+i%60
		a, b := m.rendering(nodes, size), m.rendering(nodes, size)
		if code := expectAsked(t, a, b); code != api.OK {
			t.Fatalf("%d: %s, %s", code, cut(a), cut(b))
		}
		plan, _ := least(a, b)
		kept, most = kept+len(plan.Kept), max(most, len(a.spots))
		sum.Moved, sum.Attrs, sum.Texts = sum.Moved+plan.Counts.Moved, sum.Attrs+plan.Counts.Attrs, sum.Texts+plan.Counts.Texts
		sum.Placed, sum.Created = sum.Placed+plan.Counts.Placed, sum.Created+plan.Counts.Created
	}
	if kept < 5000 || most < 30 || sum.Moved < 500 || sum.Attrs < 5000 || sum.Texts < 1000 || sum.Placed < 5000 || sum.Created < sum.Placed+1000 {
		t.Errorf("%d, %d, %+v", kept, most, sum)
	}
}

// TestP18RandomLarge: few that are large.
func TestP18RandomLarge(t *testing.T) {
	t.Parallel()
	m := newMaker(182)
	for range 6 {
		a, b := m.rendering(300, 1500), m.rendering(300, 1500)
		for i := range a.loops {
			a.loops[i].Keys = m.keys(60)
		}
		for i := range b.loops {
			b.loops[i].Keys = m.keys(60)
		}
		if code := expectAsked(t, a, b); code != api.OK {
			t.Fatal(code)
		}
	}
}

// Random states of some templates.

// record has a bool b, values v and w, a key k and lists l and m of records, while there is room.
func (m maker) record(room, number int) string {
	key := sameWord(number)
	if number%2 == 1 {
		key = strconv.Quote(key)
	}
	return fmt.Sprintf(`{"b": %v, "v": %s, "w": %s, "k": %s, "l": %s, "m": %s}`, m.chance(2), m.word(`"x"`, `null`, `7`, `"7"`, `true`), m.word(`0`, `0`, `""`), key, m.records(room), m.records(room))
}

func (m maker) records(room int) string {
	var out []string
	if room > 0 {
		for _, number := range m.Perm(5)[:min(m.Intn(9), 5)] {
			out = append(out, m.record(room-1, number))
		}
	}
	return "[" + strings.Join(out, ", ") + "]"
}

// pages are templates that are asked with a state of a record.
func pages() []string {
	row := `<li :a="x.v" c="1" :d="x.b">{{ x.v }}<if :test="x.b"><i>{{ x.w }}</i></if></li>`
	loop := `<for each="x" :in="l" :key="x.k">` + row + `</for>`
	return []string{
		``, `<p a="1">x<b/></p>`, `{{ v }}<p :a="v" :b="b" c="1"/>{{ w }}`, loop, `a<ul>` + loop + `</ul>b`, loop + `<p/>` + strings.ReplaceAll(loop, `"l"`, `"m"`),
		`<if :test="b">` + loop + `</if><else><p>` + loop + `</p></else>`, `<p><if :test="b">x<i>y<b/></i></if><else><i/>{{ v }}</else><u/></p>`,
		`<for each="y" :in="m" :key="y.k"><p :e="y.w">{{ y.v }}<for each="x" :in="y.l" :key="x.k">` + row + `</for><if :test="y.b">z</if></p></for>`,
		`<for each="z" :in="l" :key="z.k"><p><for each="y" :in="z.l" :key="y.k"><q><for each="x" :in="y.l" :key="x.k">` + row + `</for></q></for></p></for>`,
		`<def name="d-a" props="r"><u><slot/></u><for each="e" :in="r" :key="e.k"><i><slot name="in" :x="e"/></i></for></def><d-a :r="l"><fill>{{ v }}</fill><fill name="in" let="x">` + row + `</fill></d-a><d-a :r="m"/>`,
	}
}

// TestP18RandomTraces: what one template shows of two states.
func TestP18RandomTraces(t *testing.T) {
	t.Parallel()
	m, sum, most := newMaker(183), api.Counts{}, 0
	for _, s := range pages() {
		cs := template(t, s)
		for range 60 {
			a, b := traced(t, cs, m.record(3, 0)), traced(t, cs, m.record(3, 0))
			if code := expectAsked(t, a, b); code != api.OK {
				t.Fatalf("%s: %d", s, code)
			}
			expectWhole(t, a, b)
			plan, _ := least(a, b)
			n := plan.Counts
			sum.Moved, sum.Attrs, sum.Texts, sum.Placed, sum.Freed = sum.Moved+n.Moved, sum.Attrs+n.Attrs, sum.Texts+n.Texts, sum.Placed+n.Placed, sum.Freed+n.Freed
			most = max(most, len(a.spots))
		}
	}
	if most < 100 || min(sum.Moved, sum.Attrs, sum.Texts, sum.Placed, sum.Freed) < 400 {
		t.Errorf("%d, %+v", most, sum)
	}
}

// TestP18Mixed: traces of two templates are two renderings too; where two nodes of one origin have not one tag, they are refused.
func TestP18Mixed(t *testing.T) {
	t.Parallel()
	m, met := newMaker(184), map[api.Errno]int{}
	for _, one := range pages() {
		for _, other := range pages() {
			for range 4 {
				met[expectAsked(t, traced(t, template(t, one), m.record(2, 0)), traced(t, template(t, other), m.record(2, 0)))]++
			}
		}
	}
	if met[api.OK] < 100 || met[api.ErrPatchSpots] < 100 || len(met) != 2 {
		t.Errorf("%v", met)
	}
}

// TestP18Moves: loops of many elements, in rows whose moves are known.
func TestP18Moves(t *testing.T) {
	const count = 3000
	var row []api.Key
	for i := range count {
		row = append(row, api.Key{Kind: api.KInt, Int: i})
	}
	back := slices.Clone(row)
	slices.Reverse(back)
	turned := slices.Concat(row[count/3:], row[:count/3])
	paired := slices.Clone(row)
	slices.SortFunc(paired, func(a, b api.Key) int { return cmp.Compare(a.Int^1, b.Int^1) })
	for i, c := range []struct {
		news []api.Key
		want int
	}{{row, 0}, {back, count - 1}, {turned, count / 3}, {paired, count / 2}, {row[1:], 0}, {back[:10], 9}, {nil, 0}} {
		var a, b shown
		for range 3 {
			at := api.Origin{Node: len(a.loops)}
			a.loops, b.loops = append(a.loops, api.Loop{Origin: at, Keys: row}), append(b.loops, api.Loop{Origin: at, Keys: c.news})
		}
		plan, code := least(a, b)
		if code != api.OK || plan.Counts != (api.Counts{Moved: 3 * c.want}) {
			t.Errorf("row %d: %s, %d, want %d", i, told(plan), code, 3*c.want)
		}
		expectLaws(t, a, b)
	}
}
