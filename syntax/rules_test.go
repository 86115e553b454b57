package syntax

import (
	"math/rand"
	"slices"
	"strings"
	"sync"
	"testing"
	"time"
	"unsafe"

	"stencil/api"
)

// TestR1AnyBytes: any bytes have an answer, and it is the one that was asked for.
func TestR1AnyBytes(t *testing.T) {
	m := maker{rand.New(rand.NewSource(135))}
	for range 20000 {
		b := make([]byte, m.Intn(40))
		for i := range b {
			b[i] = byte(m.Intn(256))
		}
		expectAsked(t, string(b))
		for i := range b {
			b[i] = "<>/={}&;:\"' \n-1apbltmé_A\x00"[m.Intn(26)]
		}
		expectAsked(t, string(b))
	}
}

func (m maker) anyExpr(deep int) api.Expr {
	e := api.Expr{Op: m.Intn(36) - 2, Int: m.Intn(12) - 2, Str: m.pick("", "", "a", "null", "\xff")}
	for n := m.Intn(4); n > 0 && deep > 0; n-- {
		e.Kids = append(e.Kids, m.anyExpr(deep-1))
	}
	return e
}

func (m maker) anyNodes(deep int) []api.Node {
	var ns []api.Node
	for n := m.Intn(4); n > 0 && deep > 0; n-- {
		one := api.Node{Kind: m.Intn(5) - 1, Tag: m.pick("", "p", "p", "\xff"), Kids: m.anyNodes(deep - 1), At: m.Intn(9) - 4}
		for m.Intn(3) == 0 {
			one.Parts = append(one.Parts, api.Part{Plain: m.pick("", "a", "\xff"), Bound: m.Intn(2) == 0, Expr: m.anyExpr(2)})
		}
		for m.Intn(3) == 0 {
			one.Fields = append(one.Fields, api.Field{Name: m.pick("", "a", "\xff"), Plain: m.pick("", "a", "\xff"), Bound: m.Intn(2) == 0, Expr: m.anyExpr(2), At: m.Intn(9) - 4})
		}
		ns = append(ns, one)
	}
	return ns
}

// TestR1AnyNodes: whatever fields are set, there is an answer.
func TestR1AnyNodes(t *testing.T) {
	m := maker{rand.New(rand.NewSource(136))}
	for range 20000 {
		expectAskedPrint(t, m.anyNodes(3))
	}
}

// TestR1Shared: nodes that lie in one another many times over are not all gone through.
func TestR1Shared(t *testing.T) {
	ns := []api.Node{elem("p")}
	for range 31 {
		ns = []api.Node{elem("p", ns...), elem("p", ns...)}
	}
	if s, code := Print(ns); s != "" || code != api.ErrSyntaxTree {
		t.Errorf("%s, %d", cut(s), code)
	}
	wide := []api.Node{elem("p")}
	for range 3 {
		wide = []api.Node{elem("p", slices.Repeat(wide, 4000)...)}
	}
	if s, code := Print(wide); s != "" || code != api.ErrSyntaxTree {
		t.Errorf("%s, %d", cut(s), code)
	}
	sum := variable("a")
	for range 60 {
		sum = op(api.EAdd, sum, sum)
	}
	if s, code := Print([]api.Node{text(bound(sum))}); s != "" || code != api.ErrSyntaxTree {
		t.Errorf("%s, %d", cut(s), code)
	}
}

// largeTemplates are templates of about 64 KB, of many nodes and of few, whole and cut.
func largeTemplates() []string {
	large := []string{"<p" + strings.Repeat(` a=""`, api.MaxTemplate/5-1) + "/>", "<p" + strings.Repeat(` :a="b"`, 9000) + "/>", nested(31, strings.Repeat("x{{a}}", 10000)), nested(32, strings.Repeat("x", 4096)), strings.Repeat(nested(32, "x"), 240)}
	for _, piece := range []string{
		"<p>", "</p>", "<p/>", "{{}}", "{{a}}", "a{{b}}", "<b>x</b>", "x<b/>{", "<", "&lt;", "é", "{{", "<p ", `<p a="&lt;" :b="c" />`, "<p a=\"x\">y{{z}}</p>", "<a><b></b>", "</a></b>", "{{a+1}}{{(b)}}",
	} {
		full := strings.Repeat(piece, api.MaxTemplate/len(piece))
		large = append(large, full, full[:len(full)-1], "<p :a=\""+full[:len(full)-10], "{{"+full[:len(full)-4]+"}}")
	}
	return large
}

func TestR1LargeTemplates(t *testing.T) {
	for _, s := range largeTemplates() {
		if want := expectAsked(t, s); want.code == api.OK {
			expectAskedPrint(t, want.nodes)
		}
	}
}

// spent is the least time that n calls take.
func spent(n int, call func()) time.Duration {
	least := time.Hour
	for range 12 {
		begun := time.Now()
		for range n {
			call()
		}
		least = min(least, time.Since(begun))
	}
	return least
}

// expectEven asks that one large call takes about as long as sixteen of a sixteenth.
func expectEven(t *testing.T, name string, small, large func()) {
	t.Helper()
	few, one := spent(16, small), spent(1, large)
	if one > 6*few+time.Millisecond {
		t.Errorf("%s: %v of 64 KB, %v sixteen of 4 KB", name, one, few)
	}
}

// TestR1Time: templates, and nodes, of 64 KB take about as long as sixteen of 4 KB.
func TestR1Time(t *testing.T) {
	for _, piece := range []string{"<p>x</p>", "x{{a}}", "{{a}}", "x<brr/>", `<p a="b" :c="d"/>`, "<a><b><c/></b></a>", `<p a="b"/>{{ a + 1 }} `} {
		small, large := strings.Repeat(piece, api.MaxTemplate/16/len(piece)), strings.Repeat(piece, api.MaxTemplate/len(piece))
		expectEven(t, piece, func() { Parse(small) }, func() { Parse(large) })
		few, _, _ := Parse(small)
		many, _, code := Parse(large)
		if code != api.OK && code != api.ErrSyntaxLarge {
			t.Fatalf("%q: %d", piece, code)
		}
		if code == api.OK {
			expectEven(t, piece, func() { Print(few) }, func() { Print(many) })
		}
	}
	few, many := "<p"+strings.Repeat(` :a="b"`, 580)+"/>", "<p"+strings.Repeat(` :a="b"`, 9300)+"/>"
	expectEven(t, "fields", func() { Parse(few) }, func() { Parse(many) })
}

// overlap tells whether two texts lie in one memory.
func overlap(a, b string) bool {
	if a == "" || b == "" {
		return false
	}
	first, second := uintptr(unsafe.Pointer(unsafe.StringData(a))), uintptr(unsafe.Pointer(unsafe.StringData(b)))
	return first < second+uintptr(len(b)) && second < first+uintptr(len(a))
}

const everyKind = `text{{ long.name + 'text' }}<tag attribute="value" :bound="other[name]" plain=""><inner/>some &lt;{{ more }}rest<inner second="x">deep</inner></tag><last a="b"/>end`

// texts are all texts of nodes.
func texts(ns []api.Node) []string {
	var out []string
	var ofExpr func(e api.Expr)
	ofExpr = func(e api.Expr) {
		out = append(out, e.Str)
		for _, kid := range e.Kids {
			ofExpr(kid)
		}
	}
	for _, n := range all(ns) {
		out = append(out, n.Tag)
		for _, p := range n.Parts {
			out = append(out, p.Plain)
			ofExpr(p.Expr)
		}
		for _, f := range n.Fields {
			out = append(out, f.Name, f.Plain)
			ofExpr(f.Expr)
		}
	}
	return out
}

// TestR4NewTexts: no text of an answer lies in what was handed in, nor in another answer.
func TestR4NewTexts(t *testing.T) {
	s := strings.Clone(everyKind)
	ns, _, code := Parse(s)
	again, _, _ := Parse(s)
	if code != api.OK || count(ns) != 8 {
		t.Fatalf("%+v, %d", ns, code)
	}
	others := append(texts(again), s)
	for _, mine := range texts(ns) {
		for _, other := range others {
			if overlap(mine, other) {
				t.Errorf("%q lies in %q", mine, other)
			}
		}
	}
	if s != everyKind {
		t.Errorf("the template was changed: %q", s)
	}
	printed, _ := Print(ns)
	twice, _ := Print(ns)
	if overlap(printed, twice) {
		t.Errorf("two texts lie in one memory")
	}
	for _, one := range texts(ns) {
		if overlap(printed, one) {
			t.Errorf("%q lies in the nodes", one)
		}
	}
	name := strings.Clone("x")
	if alone, _ := Print([]api.Node{text(plain(name))}); overlap(alone, name) {
		t.Errorf("a plain text is handed on")
	}
}

// cells counts the cells of each list, its spare room too, by their addresses.
func cells(ns []api.Node, met map[unsafe.Pointer]int) {
	for i := range ns[:cap(ns)] {
		met[unsafe.Pointer(&ns[:cap(ns)][i])]++
	}
	for _, n := range ns {
		cells(n.Kids, met)
		for i := range n.Parts[:cap(n.Parts)] {
			met[unsafe.Pointer(&n.Parts[:cap(n.Parts)][i])]++
		}
		for i := range n.Fields[:cap(n.Fields)] {
			met[unsafe.Pointer(&n.Fields[:cap(n.Fields)][i])]++
		}
		for _, p := range n.Parts {
			exprCells(p.Expr, met)
		}
		for _, f := range n.Fields {
			exprCells(f.Expr, met)
		}
	}
}

func exprCells(e api.Expr, met map[unsafe.Pointer]int) {
	for i := range e.Kids[:cap(e.Kids)] {
		met[unsafe.Pointer(&e.Kids[:cap(e.Kids)][i])]++
	}
	for _, kid := range e.Kids {
		exprCells(kid, met)
	}
}

// TestR4NewLists: no two lists of one answer, nor of two, share memory, their spare room neither.
func TestR4NewLists(t *testing.T) {
	met := map[unsafe.Pointer]int{}
	for _, s := range []string{everyKind, everyKind, strings.Repeat("x{{a+b}}<p a=\"b\" :c=\"-d\">y{{e.f}}<q/></p>", 200)} {
		ns, _, code := Parse(s)
		if code != api.OK {
			t.Fatal(code)
		}
		cells(ns, met)
	}
	if len(met) < 1000 {
		t.Errorf("only %d cells", len(met))
	}
	for _, n := range met {
		if n != 1 {
			t.Fatalf("a cell lies in %d lists", n)
		}
	}
}

// TestR4AnswersStay overwrites an answer: neither an earlier nor a later one changes.
func TestR4AnswersStay(t *testing.T) {
	want := askedParse(everyKind)
	first, _, _ := Parse(everyKind)
	second, _, _ := Parse(everyKind)
	for _, n := range all(second) {
		clear(n.Fields[:cap(n.Fields)])
		clear(n.Parts[:cap(n.Parts)])
	}
	clear(second[:cap(second)])
	third, _, _ := Parse(everyKind)
	if !sameNodes(first, want.nodes) || !sameNodes(third, want.nodes) {
		t.Errorf("%+v, %+v, want %+v", first, third, want.nodes)
	}
}

// roomy is a copy of nodes whose lists have spare room, which holds a mark.
func roomy(ns []api.Node) []api.Node {
	out := append(make([]api.Node, 0, len(ns)+2), ns...)
	for i := range out {
		n := &out[i]
		n.Kids = roomy(n.Kids)
		n.Parts = append(append(make([]api.Part, 0, len(n.Parts)+1), n.Parts...), plain("mark"))[:len(n.Parts)]
		n.Fields = append(append(make([]api.Field, 0, len(n.Fields)+1), n.Fields...), api.Field{Name: "mark"})[:len(n.Fields)]
	}
	return append(out, elem("mark"), elem("mark"))[:len(ns)]
}

// opened is nodes with the spare room of their lists.
func opened(ns []api.Node) []api.Node {
	out := slices.Clone(ns[:cap(ns)])
	for i := range out {
		out[i].Kids = opened(out[i].Kids)
		out[i].Parts = slices.Clone(out[i].Parts[:cap(out[i].Parts)])
		out[i].Fields = slices.Clone(out[i].Fields[:cap(out[i].Fields)])
	}
	return out
}

// TestR4NodesStay: Print changes neither the nodes nor the spare room of their lists.
func TestR4NodesStay(t *testing.T) {
	m := maker{rand.New(rand.NewSource(137))}
	for range 2000 {
		ns := m.nodes(3)
		if len(ns) > 0 && m.Intn(2) == 0 {
			m.spoil(ns)
		}
		given := roomy(ns)
		before := opened(given)
		Print(given)
		if !sameNodes(opened(given), before) {
			t.Fatalf("changed: %+v, were %+v", given, ns)
		}
	}
}

// TestR5NothingKept: what was asked ahead, faults among it, does not matter.
func TestR5NothingKept(t *testing.T) {
	all := []string{everyKind, "", "a", "<p>", "</p>", "{{}}", "{{a}}", `<p :a="">`, "<p></q>", "&", "\xff", strings.Repeat("<p>", 33), strings.Repeat("<p/>", 8193), nested(32, "x")}
	for _, ahead := range all {
		for _, s := range all {
			ns, _, _ := Parse(ahead)
			Print(append(ns, api.Node{}))
			if want := expectAsked(t, s); want.code == api.OK {
				expectAskedPrint(t, want.nodes)
			}
		}
	}
}

// TestR5Goroutines: calls at one time answer as calls one by one.
func TestR5Goroutines(t *testing.T) {
	shared, _, _ := Parse(everyKind)
	want, _ := Print(shared)
	var group sync.WaitGroup
	for n := range 8 {
		group.Go(func() {
			for range 100 {
				s := strings.Repeat(everyKind, n) + "</p>"
				expectFault(t, s, api.ErrSyntaxTag, len(s)-4)
				expectAsked(t, strings.Repeat(everyKind, n))
				if got, code := Print(shared); got != want || code != api.OK {
					t.Errorf("%q, %d", got, code)
				}
			}
		})
	}
	group.Wait()
}
