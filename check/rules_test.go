package check

import (
	"math/rand"
	"slices"
	"strconv"
	"strings"
	"sync"
	"testing"
	"time"
	"unsafe"

	"stencil/api"
)

func (m *maker) anyExpr(deep int) api.Expr {
	if m.chance(2) {
		return api.Expr{Op: api.EVar, Str: m.pick("a", "b", "p")}
	}
	e := api.Expr{Op: m.Intn(36) - 2, Int: m.Intn(12) - 2, Str: m.pick("", "", "a", "null", "\xff")}
	for n := m.Intn(4); n > 0 && deep > 0; n-- {
		e.Kids = append(e.Kids, m.anyExpr(deep-1))
	}
	return e
}

func (m *maker) anyNodes(deep int) []api.Node {
	tags := []string{"if", "else", "for", "def", "slot", "fill", "p", "d", "e"}
	names := []string{"name", "props", "test", "each", "at", "in", "key", "let", "a", "b", "p"}
	var ns []api.Node
	for n := m.Intn(4); n > 0 && deep > 0; n-- {
		one := api.Node{Kind: api.NElem, Tag: m.pick(tags...), Kids: m.anyNodes(deep - 1), At: m.Intn(99)}
		if m.chance(4) {
			one = api.Node{Kind: api.NText, Parts: []api.Part{{Plain: m.pick(" ", "x")}}, At: m.Intn(99)}
		}
		for m.chance(2) && one.Kind == api.NElem {
			f := api.Field{Name: m.pick(names...), Plain: m.pick("a", "d", "e", "a b", "n", "p", ""), At: m.Intn(99)}
			if m.chance(2) {
				f.Plain, f.Bound, f.Expr = "", true, api.Expr{Op: api.EVar, Str: m.pick("a", "b", "p")}
			}
			one.Fields = append(one.Fields, f)
		}
		if m.chance(60) {
			switch m.Intn(5) {
			case 0:
				one.Kind = m.Intn(6) - 2
			case 1:
				one.Tag = m.pick("", "\xff", "P")
			case 2:
				one.Parts = append(one.Parts, api.Part{Plain: m.pick("", "\xff"), Bound: m.chance(2), Expr: m.anyExpr(2)})
			case 3:
				one.At = -m.Intn(3)
			case 4:
				one.Fields = append(one.Fields, api.Field{Name: m.pick("", "a"), Bound: true, Expr: m.anyExpr(2), At: m.Intn(4) - 1})
			}
		}
		ns = append(ns, one)
	}
	return ns
}

// TestR1AnyNodes: whatever nodes are handed in, there is an answer, and it is the one that was asked for.
func TestR1AnyNodes(t *testing.T) {
	t.Parallel()
	codes := map[api.Errno]int{}
	m := newMaker(144)
	for range 40000 {
		codes[expectAsked(t, m.anyNodes(4)).code]++
	}
	if len(codes) < 10 {
		t.Errorf("%v", codes)
	}
}

// TestR1Shared: nodes that lie in one another many times over, and defs that mean one another so, are not all gone through.
func TestR1Shared(t *testing.T) {
	ns := []api.Node{{Kind: api.NElem, Tag: "p"}}
	for range 31 {
		ns = []api.Node{{Kind: api.NElem, Tag: "p", Kids: ns}, {Kind: api.NElem, Tag: "p", Kids: ns}}
	}
	if got, at, code := Check(ns); len(got) > 0 || at != 0 || code != api.ErrSyntaxTree {
		t.Errorf("%s, %d at %d", cut(show(got)), code, at)
	}
	double := `<def name="d0"><p/></def>`
	slots := `<def name="d0"><slot/><slot/></def>`
	bare := `<def name="d0"/>`
	for i := range 31 {
		ahead, name := "d"+strconv.Itoa(i), "d"+strconv.Itoa(i+1)
		double += `<def name="` + name + `"><` + ahead + `/><` + ahead + `/></def>`
		slots += `<def name="` + name + `"><` + ahead + `><slot/><slot/></` + ahead + `></def>`
		bare += `<def name="` + name + `">` + strings.Repeat(`<`+ahead+`/>`, 60) + `</def>`
	}
	for _, s := range []string{double + `<d31/>`, slots + `<d31>x</d31>`, slots + `<d31/>`, bare + `<d31/>`} {
		if want := expectAsked(t, read(s)); want.code != api.ErrCheckLarge {
			t.Errorf("%s: %d at %d", cut(s), want.code, want.at)
		}
	}
	// A component around a component, as deep as there are pieces.
	tower := `<def name="d0"><slot/></def>`
	for i := range 6 {
		ahead, name := "d"+strconv.Itoa(i), "d"+strconv.Itoa(i+1)
		tower += `<def name="` + name + `">` + strings.Repeat(`<`+ahead+`>`, 4) + `<slot/>` + strings.Repeat(`</`+ahead+`>`, 4) + `</def>`
	}
	for i, want := range []api.Errno{0, 0, 0, 0, 0, 0, api.ErrCheckLarge} {
		name := "d" + strconv.Itoa(i)
		if got := expectAsked(t, read(tower+`<`+name+`>x</`+name+`>`)); got.code != want {
			t.Errorf("%s: %d at %d", name, got.code, got.at)
		}
	}
}

// TestR1SharedMemory: one list of nodes may stand in several places, of which each is asked for itself.
func TestR1SharedMemory(t *testing.T) {
	t.Parallel()
	m := newMaker(145)
	def := read(`<def name="e" props="p"><slot :u="p"/><slot name="n"/></def>`)[0]
	for range 5000 {
		kids := m.anyNodes(2)
		if m.chance(2) {
			kids = read(`<e p=""><fill let="u">{{ u }}</fill><fill name="n"/></e><if :test="1"/> <else><e p="">x</e></else>`)
		}
		inner := read(`<def name="d" props="b"/>`)[0]
		inner.Kids = kids
		ns := []api.Node{def, inner, {Kind: api.NElem, Tag: "q", Kids: kids}, {Kind: api.NElem, Tag: "d", Fields: []api.Field{{Name: "b"}}, Kids: kids}, {Kind: api.NElem, Tag: "q", Kids: kids}}
		expectAsked(t, ns)
	}
}

// series is n times a piece, with the number in the place of #.
func series(n int, piece string) string {
	var out strings.Builder
	for i := range n {
		out.WriteString(strings.ReplaceAll(piece, "#", strconv.Itoa(i)))
	}
	return out.String()
}

// largeTemplates are templates of at most 64 KB, of so many parts.
func largeTemplates(n int) map[string]string {
	def := `<def name="d" props="p"><slot :u="p"/></def>`
	wide := `<def name="d"><slot>` + series(n/16, `<slot name="s#"/>`) + `</slot></def><def name="e"><d><fill>x</fill>` + series(n/16, `<fill name="s#"/>`) + `</d></def>`
	return map[string]string{
		"elements":   series(n/2, `<p/>`),
		"texts":      series(n/4, `x<p/>`),
		"fields":     `<p` + series(n/4, ` a#="b"`) + `/>`,
		"names":      `<p` + series(n/4, ` :a#="b"`) + `/>`,
		"parts":      series(n/4, `x{{ a }}`),
		"ifs":        series(n/8, `<if :test="a"/> <else/>`),
		"loops":      series(n/16, `<for each="x" :in="a" :key="x"><p/></for>`),
		"uses":       def + series(n/16, `<d p="#">x</d>`),
		"fills":      def + series(n/16, `<d p=""><fill let="u">{{ u }}</fill></d>`),
		"slots":      `<def name="d">` + series(n/20, `<slot name="s#" :u="1"/>`) + `</def><d>` + series(n/20, `<fill name="s#" let="u">{{ u }}</fill>`) + `</d>`,
		"one slot":   `<def name="d">` + series(n/16, `<slot :u="#"/>`) + `</def>` + series(n/32, `<p><d><fill let="u">{{ u }}</fill></d></p>`),
		"props":      `<def name="d"><slot` + series(n/8, ` :u#="1"`) + `/></def><p><d><fill let="u1"/></d></p>`,
		"not filled": wide + series(n/16, `<e/>`),
		"blanks":     def + series(n/32, `<d p=""> `+strings.Repeat(" ", 20)+`</d>`),
		"nested":     series(n/256, nest(30, `{{ a }}`)),
		"deep names": `<def name="e" props="a b c d e f g h">` + nest(30, series(n/16, `{{ a + h }}<p/>`)) + `</def>`,
		"words":      `<def name="d" props="` + strings.Repeat(" ", min(n/4, 4000)) + `"/>` + series(n/64, `<d> </d>`),
	}
}

// spent is the least time that n calls take.
func spent(n int, call func()) time.Duration {
	least := time.Hour
	for range 12 {
		begun := time.Now()
		for range n {
			call()
		}
		least = min(least, time.Since(begun))
	}
	return least
}

// TestR1Time: what is sixteen times as large takes about sixteen times as long.
func TestR1Time(t *testing.T) {
	small, large := largeTemplates(1000), largeTemplates(16000)
	for name, s := range large {
		if len(s) > api.MaxTemplate {
			t.Fatalf("%s: %d bytes", name, len(s))
		}
		few, many := read(small[name]), read(s)
		short, long := spent(16, func() { Check(few) }), spent(1, func() { Check(many) })
		if long > 8*short+time.Millisecond {
			t.Errorf("%s: %v of %d bytes, %v sixteen of %d", name, long, len(s), short, len(small[name]))
		}
	}
}

// TestR1Large: they are answered as asked.
func TestR1Large(t *testing.T) {
	t.Parallel()
	codes := map[api.Errno]int{}
	for _, n := range []int{1000, 4000, 16000} {
		for _, s := range largeTemplates(n) {
			codes[expectAsked(t, read(s)).code]++
		}
	}
	if codes[api.OK] < 10 || codes[api.ErrCheckLarge] < 8 {
		t.Errorf("%v", codes)
	}
}

const everyKind = `<def name="one" props="first second"><b :class="first" id="plain">{{ second ~ 'text' }}plain<slot :named="first + second">own</slot></b><slot name="other" :more="second"/></def>` +
	`text{{ state.field }}<one first="value" :second="state[index]"><fill let="named">{{ named }}<p title="words" :lang="named.part"/></fill></one><if :test="state">then</if> <else>otherwise</else>` +
	`<for each="item" at="index" :in="list.items" :key="item.id"><li :a="item" b="c">{{ index + 1 }}</li></for><one first="" second="">inner{{ name }}</one>`

func exprTexts(e api.Expr) []string {
	out := []string{e.Str}
	for _, kid := range e.Kids {
		out = append(out, exprTexts(kid)...)
	}
	return out
}

func coreTexts(cs []api.Core) []string {
	var out []string
	for _, c := range cs {
		out = append(out, c.Tag)
		for _, f := range c.Fields {
			out = append(append(out, f.Name, f.Plain), exprTexts(f.Expr)...)
		}
		for _, p := range c.Parts {
			out = append(append(out, p.Plain), exprTexts(p.Expr)...)
		}
		for _, e := range c.Exprs {
			out = append(out, exprTexts(e)...)
		}
		out = append(append(out, coreTexts(c.Kids)...), coreTexts(c.Else)...)
	}
	return out
}

func nodeTexts(ns []api.Node) []string {
	var out []string
	for _, n := range every(ns) {
		out = append(out, n.Tag)
		for _, f := range n.Fields {
			out = append(append(out, f.Name, f.Plain), exprTexts(f.Expr)...)
		}
		for _, p := range n.Parts {
			out = append(append(out, p.Plain), exprTexts(p.Expr)...)
		}
	}
	return out
}

// overlap tells whether two texts lie in one memory.
func overlap(a, b string) bool {
	if a == "" || b == "" {
		return false
	}
	first, second := uintptr(unsafe.Pointer(unsafe.StringData(a))), uintptr(unsafe.Pointer(unsafe.StringData(b)))
	return first < second+uintptr(len(b)) && second < first+uintptr(len(a))
}

// TestR4NewTexts: no text of an answer lies in what was handed in, nor in another answer.
func TestR4NewTexts(t *testing.T) {
	ns := read(everyKind)
	first, _, code := Check(ns)
	again, _, _ := Check(ns)
	if code != api.OK {
		t.Fatal(code)
	}
	others := append(nodeTexts(ns), coreTexts(again)...)
	for _, mine := range coreTexts(first) {
		for _, other := range others {
			if overlap(mine, other) {
				t.Errorf("%q lies in %q", mine, other)
			}
		}
	}
}

// cells counts the cells of each list, its spare room too, by their addresses.
func cells[T any](list []T, met map[unsafe.Pointer]int) {
	for i := range list[:cap(list)] {
		met[unsafe.Pointer(&list[:cap(list)][i])]++
	}
}

func exprCells(e api.Expr, met map[unsafe.Pointer]int) {
	cells(e.Kids, met)
	for _, kid := range e.Kids {
		exprCells(kid, met)
	}
}

func coreCells(cs []api.Core, met map[unsafe.Pointer]int) {
	cells(cs, met)
	for _, c := range cs {
		cells(c.Fields, met)
		cells(c.Parts, met)
		cells(c.Exprs, met)
		for _, f := range c.Fields {
			exprCells(f.Expr, met)
		}
		for _, p := range c.Parts {
			exprCells(p.Expr, met)
		}
		for _, e := range c.Exprs {
			exprCells(e, met)
		}
		coreCells(c.Kids, met)
		coreCells(c.Else, met)
	}
}

func nodeCells(ns []api.Node, met map[unsafe.Pointer]int) {
	cells(ns, met)
	for _, n := range ns {
		cells(n.Fields, met)
		cells(n.Parts, met)
		for _, f := range n.Fields {
			exprCells(f.Expr, met)
		}
		for _, p := range n.Parts {
			exprCells(p.Expr, met)
		}
		nodeCells(n.Kids, met)
	}
}

// TestR4NewLists: no two lists of one answer, nor of two, nor one of what was handed in, share memory, their spare room neither.
func TestR4NewLists(t *testing.T) {
	met := map[unsafe.Pointer]int{}
	m := newMaker(146)
	for i := range 300 {
		ns := read(m.template())
		if i == 0 {
			ns = read(everyKind)
		}
		nodeCells(ns, met)
		for range 2 {
			cs, _, _ := Check(ns)
			coreCells(cs, met)
		}
	}
	if len(met) < 10000 {
		t.Errorf("only %d cells", len(met))
	}
	for _, n := range met {
		if n != 1 {
			t.Fatalf("a cell lies in %d lists", n)
		}
	}
}

// roomy is a copy of nodes whose lists have spare room, which holds a mark.
func roomy(ns []api.Node) []api.Node {
	out := append(make([]api.Node, 0, len(ns)+2), ns...)
	for i := range out {
		n := &out[i]
		n.Kids = roomy(n.Kids)
		n.Parts = append(append(make([]api.Part, 0, len(n.Parts)+1), n.Parts...), api.Part{Plain: "mark"})[:len(n.Parts)]
		n.Fields = append(append(make([]api.Field, 0, len(n.Fields)+1), n.Fields...), api.Field{Name: "mark"})[:len(n.Fields)]
		for j := range n.Fields {
			n.Fields[j].Expr = roomyExpr(n.Fields[j].Expr)
		}
		for j := range n.Parts {
			n.Parts[j].Expr = roomyExpr(n.Parts[j].Expr)
		}
	}
	return append(out, api.Node{Tag: "mark"}, api.Node{Tag: "mark"})[:len(ns)]
}

func roomyExpr(e api.Expr) api.Expr {
	kids := make([]api.Expr, 0, len(e.Kids)+1)
	for _, kid := range e.Kids {
		kids = append(kids, roomyExpr(kid))
	}
	e.Kids = append(kids, api.Expr{Str: "mark"})[:len(e.Kids)]
	return e
}

// opened is nodes with the spare room of their lists, in a copy.
func opened(ns []api.Node) []api.Node {
	out := slices.Clone(ns[:cap(ns)])
	for i := range out {
		n := &out[i]
		n.Kids = opened(n.Kids)
		n.Parts = slices.Clone(n.Parts[:cap(n.Parts)])
		n.Fields = slices.Clone(n.Fields[:cap(n.Fields)])
		for j := range n.Fields {
			n.Fields[j].Expr = openedExpr(n.Fields[j].Expr)
		}
		for j := range n.Parts {
			n.Parts[j].Expr = openedExpr(n.Parts[j].Expr)
		}
	}
	return out
}

func openedExpr(e api.Expr) api.Expr {
	e.Kids = slices.Clone(e.Kids[:cap(e.Kids)])
	for i := range e.Kids {
		e.Kids[i] = openedExpr(e.Kids[i])
	}
	return e
}

func sameNode(a, b api.Node) bool {
	return a.Kind == b.Kind && a.Tag == b.Tag && a.At == b.At && slices.EqualFunc(a.Fields, b.Fields, sameField) && slices.EqualFunc(a.Parts, b.Parts, samePart) && slices.EqualFunc(a.Kids, b.Kids, sameNode)
}

// TestR4NodesStay: neither the nodes nor the spare room of their lists are changed, whether they may be or not.
func TestR4NodesStay(t *testing.T) {
	t.Parallel()
	m := newMaker(147)
	for i := range 3000 {
		ns := read(m.template())
		if i == 0 {
			ns = read(everyKind)
		}
		if m.chance(3) {
			ns = m.spoil(ns)
		}
		given := roomy(ns)
		before := opened(given)
		Check(given)
		if !slices.EqualFunc(opened(given), before, sameNode) {
			t.Fatalf("changed: %s", printed(ns))
		}
	}
}

// TestR4AnswersStay overwrites what was handed in, and an answer: neither an earlier nor a later answer changes.
func TestR4AnswersStay(t *testing.T) {
	want := askedCheck(read(everyKind))
	ns := read(everyKind)
	first, _, _ := Check(ns)
	second, _, _ := Check(ns)
	wipe(second)
	third, _, _ := Check(ns)
	for _, n := range every(ns) {
		clear(n.Fields)
		clear(n.Parts)
	}
	clear(ns)
	if !sameCores(first, want.cores) || !sameCores(third, want.cores) {
		t.Errorf("%s, %s, want %s", show(first), show(third), show(want.cores))
	}
}

func wipe(cs []api.Core) {
	for _, c := range cs {
		wipe(c.Kids)
		wipe(c.Else)
		for _, e := range allExprs(c) {
			clear(e.Kids)
		}
		clear(c.Fields)
		clear(c.Parts)
		clear(c.Exprs)
	}
	clear(cs)
}

// TestR5NothingKept: what was asked ahead, faults among it, does not matter.
func TestR5NothingKept(t *testing.T) {
	t.Parallel()
	all := []string{everyKind, "", "x", `<def name="one"/>`, `<one/>`, `<def name="a"><slot/></def><a/>`, `<a><fill/></a>`, `<slot/>`, `<else/>`, `<if :test="a"/>`, `<p a="" a=""/>`, loops(9, ""), filledUp(4097), filledUp(4096)}
	for _, ahead := range all {
		for _, s := range all {
			Check(read(ahead))
			expectAsked(t, read(s))
		}
	}
}

// TestR5Goroutines: calls at one time, with the same nodes, answer as calls one by one.
func TestR5Goroutines(t *testing.T) {
	shared := read(everyKind)
	want := askedCheck(shared)
	var group sync.WaitGroup
	for n := range 8 {
		group.Go(func() {
			m := &maker{Rand: rand.New(rand.NewSource(int64(n)))}
			for range 50 {
				got, at, code := Check(shared)
				if !sameCores(got, want.cores) || at != 0 || code != api.OK {
					t.Errorf("%s, %d at %d", show(got), code, at)
				}
				mine := read(m.template())
				if one := askedCheck(mine); one.code != api.OK {
					continue
				} else if cs, _, code := Check(mine); code != api.OK || !sameCores(cs, one.cores) {
					t.Errorf("%s: %s, %d", printed(mine), show(cs), code)
				}
			}
		})
	}
	group.Wait()
}
