package origin

import (
	"fmt"
	"math/rand"
	"slices"
	"strconv"
	"strings"
	"testing"

	"stencil/api"
	"stencil/check"
	"stencil/core"
	"stencil/render"
	"stencil/syntax"
)

// maker writes templates and states that fit one another, but for off in a hundred of their parts. All is asked of records: the state's s, and what is bound on the way.
type maker struct {
	*rand.Rand
	off, bound int
}

func newMaker(seed int64) *maker {
	return &maker{Rand: rand.New(rand.NewSource(seed)), off: 1}
}

func (m *maker) chance(n int) bool { return m.Intn(n) == 0 }

func (m *maker) word(those ...string) string { return those[m.Intn(len(those))] }

// either is the one that fits, but for off in a hundred.
func (m *maker) either(fits string, others ...string) string {
	if m.Intn(100) < m.off {
		return m.word(others...)
	}
	return fits
}

// record is one with bools b and c, a text t, a key k, which is the only one of its number, and lists l and m of records, while there is room.
func (m *maker) record(room, number int) string {
	key := m.word(strconv.Itoa(number), strconv.Quote(strconv.Itoa(number)), strconv.Itoa(-1-number), fmt.Sprintf(`"k%d"`, number))
	return fmt.Sprintf(`{"b": %v, "c": %v, "t": %s, "k": %s, "l": %s, "m": %s}`, m.chance(2), m.chance(2), m.either(m.word(`"x"`, `null`, `7`, `"é<"`), `[]`), m.either(key, `null`, `1`), m.rows(room), m.rows(room))
}

func (m *maker) rows(room int) string {
	var rows []string
	for i := range m.Intn(4) * min(room, 1) {
		rows = append(rows, m.record(room-1, i))
	}
	m.Shuffle(len(rows), func(i, j int) { rows[i], rows[j] = rows[j], rows[i] })
	return "[" + strings.Join(rows, ", ") + "]"
}

func (m *maker) state(room int) string { return `{"s": ` + m.record(room, 0) + `}` }

const defs = `<def name="d-a" props="r"><i>{{ r.t }}</i><slot/></def>` +
	`<def name="d-b" props="r"><for each="e" :in="r.l" :key="e.k"><u><slot :q="e">none</slot></u></for></def>` +
	`<def name="d-c" props="r"><if :test="r.b"><slot/></if><else><b/><d-a :r="r"><slot/></d-a></else></def>`

// cores are those of a template, which is none of the few that grow too large.
func (m *maker) cores(t *testing.T, deep int) []api.Core {
	for {
		ns, at, code := syntax.Parse(defs + m.nodes(deep, "s"))
		if code != api.OK {
			t.Fatalf("%d at %d", code, at)
		}
		cs, at, code := check.Check(ns)
		switch code {
		case api.OK:
			return cs
		case api.ErrCheckLarge, api.ErrCheckLoops, api.ErrCheckDeep:
		default:
			t.Fatalf("%d at %d", code, at)
		}
	}
}

// nodes are some nodes in which those names are bound to records.
func (m *maker) nodes(deep int, names ...string) string {
	var out strings.Builder
	for deep > 0 && !m.chance(4) && out.Len() < 2000 {
		out.WriteString(m.node(deep-1, names))
	}
	return out.String()
}

func (m *maker) node(deep int, names []string) string {
	r := m.word(names...)
	switch m.Intn(9) {
	case 0:
		return m.word("x", "é", " ")
	case 1:
		return m.word("y", "") + "{{ " + r + "." + m.either("t", "l", "z") + " }}"
	case 2, 3:
		return m.element(deep, names)
	case 4, 5:
		s := `<if :test="` + r + "." + m.either(m.word("b", "c"), "t") + `">` + m.nodes(deep, names...) + `</if>`
		if m.chance(2) {
			s += `<else>` + m.nodes(deep, names...) + `</else>`
		}
		return s
	case 6, 7:
		return m.loop(deep, r, names)
	}
	if m.chance(2) {
		return `<d-b :r="` + r + `"><fill let="q">` + m.nodes(deep, append([]string{"q"}, names...)...) + `</fill></d-b>`
	}
	tag := m.word("d-a", "d-c")
	return `<` + tag + ` :r="` + r + `">` + m.nodes(deep, names...) + `</` + tag + `>`
}

func (m *maker) element(deep int, names []string) string {
	tag, fields := m.word("p", "q", "x-a"), ""
	if m.chance(3) {
		fields += ` :a="` + m.word(names...) + "." + m.either(m.word("t", "b"), "m") + `"`
	}
	if m.chance(3) {
		fields += ` c="y"`
	}
	return `<` + tag + fields + `>` + m.nodes(deep, names...) + `</` + tag + `>`
}

func (m *maker) loop(deep int, r string, names []string) string {
	m.bound++
	x, i := "x"+strconv.Itoa(m.bound), "i"+strconv.Itoa(m.bound)
	key := m.either(m.word(x+".k", x+".k", i, "'n' ~ "+i), r+".k", "null")
	return `<for each="` + x + `" at="` + i + `" :in="` + r + "." + m.either(m.word("l", "m"), "b") + `" :key="` + key + `">` + m.element(deep, append([]string{x}, names...)) + `</for>`
}

// TestP17Random: random templates, with states that fit and states that do not.
func TestP17Random(t *testing.T) {
	t.Parallel()
	m, met, most, deepest, again := newMaker(171), map[api.Errno]int{}, 0, 0, 0
	for i := range 1000 {
		m.off = i % 3
		cs, tags := m.cores(t, 3+i%4), map[api.Origin]string{}
		for range 4 {
			state := datum(t, m.state(1+i%3))
			met[expectAsked(t, cs, state)]++
			ahead := len(tags)
			expectOneTag(t, tags, cs, state)
			spots, loops, _ := Trace(cs, state)
			most, deepest = max(most, len(spots)), max(deepest, core.Loops(cs))
			again += max(0, ahead+len(spots)-len(tags))
			if len(loops) > 0 {
				met[-1]++
			}
		}
	}
	if met[api.OK] < 2000 || met[-1] < 1000 || most < 200 || deepest < 4 || again < 10000 {
		t.Errorf("%v, %d, %d, %d", met, most, deepest, again)
	}
	for _, code := range []api.Errno{api.ErrEvalType, api.ErrEvalPath, api.ErrRenderKey} {
		if met[code] < 10 {
			t.Errorf("few of %d: %v", code, met)
		}
	}
}

// A core can tell the origins of its own nodes: what a key asks lies on the stack for all that lies in the loop.

// marked is cs with an attribute zz in each element that tells its origin, with an element in place of each text, and one ahead of each loop; the first of cs has that number.
func marked(cs []api.Core, number int, keys []api.Expr) []api.Core {
	var out []api.Core
	for _, c := range cs {
		mark := api.Field{Name: "zz", Bound: true, Expr: markOf(number, keys)}
		inner := keys
		switch c.Kind {
		case api.CText:
			c = api.Core{Kind: api.CElem, Tag: "zz-text", Fields: []api.Field{mark}}
			number++
			out = append(out, c)
			continue
		case api.CElem:
			c.Fields = append(c.Fields[:len(c.Fields):len(c.Fields)], mark)
		case api.CFor:
			out = append(out, api.Core{Kind: api.CElem, Tag: "zz-loop", Fields: []api.Field{mark}})
			inner = append(keys[:len(keys):len(keys)], c.Exprs[1])
		}
		kids := counted(c.Kids)
		all := 1 + kids + counted(c.Else)
		c.Kids, c.Else = marked(c.Kids, number+1, inner), marked(c.Else, number+1+kids, inner)
		number += all
		out = append(out, c)
	}
	return out
}

// markOf comes to a number and to keys, with a letter for the kind of each.
func markOf(number int, keys []api.Expr) api.Expr {
	cat := func(a, b api.Expr) api.Expr { return api.Expr{Op: api.ECat, Kids: []api.Expr{a, b}} }
	str := func(s string) api.Expr { return api.Expr{Op: api.EStr, Str: s} }
	e := api.Expr{Op: api.EInt, Int: number}
	for _, key := range keys {
		isText := api.Expr{Op: api.ESame, Kids: []api.Expr{key, cat(key, str(""))}}
		letter := api.Expr{Op: api.EIf, Kids: []api.Expr{isText, str("/s"), str("/i")}}
		e = cat(e, cat(letter, key))
	}
	return e
}

// marks gathers what the elements of a forest tell: those of nodes, and those of loops.
func marks(fs []api.Tree, nodes, loops *[]string) {
	for _, tree := range fs {
		told := tree.Attrs[len(tree.Attrs)-1].Value
		if tree.Tag == "zz-loop" {
			*loops = append(*loops, told)
		} else {
			*nodes = append(*nodes, told)
		}
		marks(tree.Kids, nodes, loops)
	}
}

// markedBy is an origin as markOf tells it.
func markedBy(o api.Origin) string {
	s := strconv.Itoa(o.Node)
	for _, k := range o.Keys[:o.Loops] {
		if k.Kind == api.KStr {
			s += "/s" + k.Str
		} else {
			s += "/i" + strconv.Itoa(k.Int)
		}
	}
	return s
}

// TestP17_1Marked holds origins against those that a marked core tells of itself.
func TestP17_1Marked(t *testing.T) {
	t.Parallel()
	m, met, many := newMaker(172), 0, 0
	m.off = 0
	for i := range 1500 {
		cs := m.cores(t, 3+i%3)
		all := marked(cs, 0, nil)
		if code := core.Check(all); code != api.OK {
			continue
		}
		for range 3 {
			state := datum(t, m.state(2))
			fs, code := render.Render(all, state)
			spots, loops, got := Trace(cs, state)
			if code == api.ErrRenderLarge {
				continue
			}
			var nodes, told, wanted, wantedLoops []string
			marks(fs, &wanted, &wantedLoops)
			for _, spot := range spots {
				nodes = append(nodes, markedBy(spot.Origin))
			}
			for _, loop := range loops {
				told = append(told, markedBy(loop.Origin))
			}
			if code != got || !slices.Equal(nodes, wanted) || !slices.Equal(told, wantedLoops) {
				t.Fatalf("%s of %s: %s, %s, %d, want %s, %s, %d", cut(cs), cut(state), cut(nodes), cut(told), got, cut(wanted), cut(wantedLoops), code)
			}
			met, many = met+1, many+len(loops)
		}
	}
	if met < 2000 || many < 3000 {
		t.Errorf("only %d, %d", met, many)
	}
}
