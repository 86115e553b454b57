package verify

import (
	"math"
	"reflect"
	"slices"
	"strings"
	"sync"
	"testing"
	"time"

	"stencil/api"
)

// anyNumber is one of all sizes.
func (m *maker) anyNumber() int {
	x := m.Int() >> m.Intn(63)
	return m.pick(0, 0, 1, 1, 2, 3, 4, -1, x, -x, math.MaxInt64, math.MinInt64)
}

// wild is a program of anything.
func (m *maker) wild() api.Program {
	p := program0()
	if m.chance(3) {
		m.bendShared(&p)
	}
	for range m.Intn(4) {
		b := api.Block{Depth: m.pick(1, 1, 3, m.anyNumber())}
		for range m.Intn(5) {
			o := m.anyOp()
			if m.chance(4) {
				o = api.Op{Kind: m.anyNumber(), A: m.anyNumber(), B: m.anyNumber(), C: m.anyNumber(), List: []int{m.anyNumber()}}
			}
			b.Ops = append(b.Ops, o)
		}
		for range m.Intn(2) {
			b.Update = append(b.Update, m.anyNumber())
		}
		p.Blocks = append(p.Blocks, b)
	}
	return p
}

// TestR1Any: whatever is handed in, there is an answer, and it is the one that was asked for.
func TestR1Any(t *testing.T) {
	t.Parallel()
	m := newMaker(222)
	for range 60000 {
		expectJudged(t, m.wild())
		if t.Failed() {
			return
		}
	}
}

// TestR1Empty: lists that are empty or nil, wherever one may be.
func TestR1Empty(t *testing.T) {
	for _, p := range []api.Program{{}, {Blocks: []api.Block{}}, {Texts: []string{}, Codes: [][]api.Inst{}, Statics: []api.Tree{}}} {
		expect(t, p, 0, 0, api.ErrVerifyBlock)
	}
	expectOK(t, api.Program{Blocks: []api.Block{{Depth: 1, Ops: []api.Op{}, Update: []int{}}}})
	for kind := range 14 {
		expectJudged(t, api.Program{Blocks: []api.Block{block(1, op(kind))}})
		expectJudged(t, api.Program{Blocks: []api.Block{block(1, op(kind, 0, 0, 1)), {}}})
	}
	expect(t, api.Program{Codes: make([][]api.Inst, 1), Blocks: []api.Block{{}}}, 0, 0, api.ErrVerifyCode)
	expect(t, api.Program{Statics: make([]api.Tree, 1), Blocks: []api.Block{{}}}, 0, 0, api.ErrVerifyTree)
	expect(t, api.Program{Texts: make([]string, 1), Blocks: []api.Block{{}}}, 0, 0, api.ErrVerifyDepth)
}

// TestR1Shared: a tree that lies in itself many times over is not all gone through.
func TestR1Shared(t *testing.T) {
	for _, tree := range []api.Tree{{Tag: "p"}, {Text: "x"}, {Tag: "P"}} {
		for range 4000 {
			tree = api.Tree{Tag: "p", Kids: []api.Tree{tree, tree}}
		}
		p := one()
		p.Statics = append(p.Statics, tree)
		expect(t, p, 0, statics, api.ErrVerifyTree)
	}
}

// TestR1Huge: what is far above a limit, or long behind the first fault.
func TestR1Huge(t *testing.T) {
	t.Parallel()
	const million = 1 << 20
	texts := one()
	texts.Texts = make([]string, million)
	expect(t, texts, 0, 16384, api.ErrVerifyText)
	long := one()
	long.Texts = append(long.Texts, strings.Repeat("x", 1<<26))
	expect(t, long, 0, 6, api.ErrVerifyText)
	insts := one()
	insts.Codes = append(insts.Codes, make([]api.Inst, million))
	expect(t, insts, 0, codes, api.ErrVerifyCode)
	trees := one()
	trees.Statics = slices.Repeat([]api.Tree{{Tag: "p"}}, million)
	expect(t, trees, 0, 4096, api.ErrVerifyTree)
	kids := one()
	kids.Statics = append(kids.Statics, api.Tree{Tag: "p", Kids: make([]api.Tree, million)})
	expect(t, kids, 0, statics, api.ErrVerifyTree)
	expect(t, program0(make([]api.Block, million)...), 0, 0, api.ErrVerifyBlock)
	expect(t, one(times(million, words)...), 0, 8192, api.ErrVerifyOp)
	expect(t, one(with(1, make([]int, million)...)), 0, 0, api.ErrVerifyOp)
	update := one(words)
	update.Blocks[0].Update = make([]int, million)
	expect(t, update, 0, 1, api.ErrVerifyUpdate)
}

// spent is the least time that so many calls take.
func spent(n int, call func()) time.Duration {
	least := time.Hour
	for range 8 {
		begun := time.Now()
		for range n {
			call()
		}
		least = min(least, time.Since(begun))
	}
	return least
}

// sized are programs of so many fifteenths of what they may be, about.
func sized(n int) map[string]api.Program {
	// One long code and one large static, each named by many operations.
	named := one()
	long := append([]api.Inst{{Op: api.IVar}}, slices.Repeat([]api.Inst{{Op: api.INeg}}, n*540)...)
	named.Codes = append(named.Codes, long)
	named.Statics = append(named.Statics, api.Tree{Tag: "w", Kids: make([]api.Tree, n*270)})
	list := slices.Repeat([]int{codes}, 63)
	for number := 1; number < n*540; number++ {
		named.Blocks[0].Ops = append(named.Blocks[0].Ops, with(number, list...))
		named.Blocks = append(named.Blocks, block(64, op(api.OpTextX, codes), op(api.OpStatic, statics)))
	}
	texts := one()
	texts.Texts = append(texts.Texts, slices.Repeat([]string{strings.Repeat("é", 500)}, n*1000)...)
	insts := one()
	insts.Codes = append(insts.Codes, slices.Repeat([][]api.Inst{long}, 100)...)
	flat := one(slices.Repeat([]api.Op{open, attrP, boundQ, let, drop(1), shut}, n*90)...)
	for place := range flat.Blocks[0].Ops {
		flat.Blocks[0].Update = append(flat.Blocks[0].Update, place)
	}
	return map[string]api.Program{"named": named, "texts": texts, "codes": insts, "flat": flat, "wide": wide(n * 540), "chain": chain(n * 540)}
}

// TestR1Time: what is fifteen times as large takes about fifteen times as long.
func TestR1Time(t *testing.T) {
	small, large := sized(1), sized(15)
	for name, p := range large {
		expectOK(t, p)
		short, long := spent(15, func() { Verify(small[name]) }), spent(1, func() { Verify(p) })
		if long > 8*short+10*time.Millisecond {
			t.Errorf("%s: %v, fifteen of a fifteenth %v", name, long, short)
		}
	}
}

// TestR2Zero: no number and no place stands beside OK; beside an error just those that are told.
func TestR2Zero(t *testing.T) {
	t.Parallel()
	m := newMaker(223)
	for range 20000 {
		p := m.made()
		m.bend(&p)
		block, place, code := Verify(p)
		shared := code == api.ErrVerifyText || code == api.ErrVerifyTree
		if code == api.OK && block+place != 0 || shared && block != 0 || block < 0 || place < 0 || block >= max(len(p.Blocks), 1) {
			t.Fatalf("%s: %d, %d, %d", shown(p), block, place, code)
		}
	}
}

// Lists of anything, and what lies behind their ends.

// visit calls met with each list that lies in x, the inner ones behind those that hold them.
func visit(x reflect.Value, met func(list reflect.Value)) {
	switch x.Kind() {
	case reflect.Struct:
		for i := range x.NumField() {
			visit(x.Field(i), met)
		}
	case reflect.Slice:
		met(x)
		for i := range x.Len() {
			visit(x.Index(i), met)
		}
	}
}

// copied is a copy of x in which each list is what made makes of it.
func copied[T any](x T, made func(list reflect.Value) reflect.Value) T {
	visit(reflect.ValueOf(&x).Elem(), func(list reflect.Value) { list.Set(made(list)) })
	return x
}

// roomy is a copy of a list with room for two more, which holds marks.
func roomy(list reflect.Value) reflect.Value {
	out := reflect.MakeSlice(list.Type(), list.Len()+2, list.Len()+2)
	reflect.Copy(out, list)
	for i := list.Len(); i < out.Len(); i++ {
		mark(out.Index(i))
	}
	return out.Slice(0, list.Len())
}

// mark fills all numbers and texts.
func mark(x reflect.Value) {
	switch x.Kind() {
	case reflect.Int:
		x.SetInt(77)
	case reflect.String:
		x.SetString("mark")
	case reflect.Struct:
		for i := range x.NumField() {
			mark(x.Field(i))
		}
	}
}

// opened is a copy of a list to the end of its room.
func opened(list reflect.Value) reflect.Value {
	out := reflect.MakeSlice(list.Type(), list.Cap(), list.Cap())
	reflect.Copy(out, list.Slice(0, list.Cap()))
	return out
}

// spoil overwrites the cells of all lists in x, to the ends of their room.
func spoil(x any) {
	var all []reflect.Value
	visit(reflect.ValueOf(x), func(list reflect.Value) { all = append(all, list.Slice(0, list.Cap())) })
	for _, list := range all {
		for i := range list.Len() {
			mark(list.Index(i))
		}
	}
}

// TestR4ArgumentsStay: nothing that is handed in is changed, nor the room of its lists, whether it may be or not.
func TestR4ArgumentsStay(t *testing.T) {
	t.Parallel()
	m := newMaker(224)
	for range 4000 {
		p := m.made()
		if m.chance(2) {
			m.bend(&p)
		}
		p = copied(p, roomy)
		was := copied(p, opened)
		Verify(p)
		if !reflect.DeepEqual(copied(p, opened), was) {
			t.Fatalf("changed: %s", shown(p))
		}
	}
}

// TestR4NothingKept overwrites what was handed in: a later answer hangs on what is handed in then.
func TestR4NothingKept(t *testing.T) {
	m := newMaker(225)
	for range 2000 {
		p, other := copied(m.made(), roomy), m.made()
		m.bend(&other)
		want := judged(other)
		expectOK(t, p)
		spoil(p)
		if got := verified(other); got != want {
			t.Fatalf("%s: %v, want %v", shown(other), got, want)
		}
		// What was spoiled is another program now.
		if got := verified(p); got != judged(p) || got.code == api.OK {
			t.Fatalf("%s: %v", shown(p), got)
		}
	}
}

// TestR5Alike: equal calls answer alike, whatever was asked ahead.
func TestR5Alike(t *testing.T) {
	t.Parallel()
	m := newMaker(226)
	for range 4000 {
		p, other := m.made(), m.wild()
		for range m.Intn(3) {
			m.bend(&p)
		}
		first := verified(p)
		Verify(other)
		if again := verified(copied(p, roomy)); again != first {
			t.Fatalf("%s: %v, %v", shown(p), first, again)
		}
	}
}

// TestR5Goroutines: calls at one time, with the same arguments, answer as calls one by one.
func TestR5Goroutines(t *testing.T) {
	p := newMaker(227).made()
	wrong := program0(block(1, open, either(1, 0), shut), block(1, still, words, shut))
	var group sync.WaitGroup
	for n := range 8 {
		group.Go(func() {
			m := newMaker(int64(n))
			for range 300 {
				expectOK(t, p)
				expect(t, wrong, 1, 2, api.ErrVerifyShape)
				bent := copyOf(p)
				m.bend(&bent)
				expectJudged(t, bent)
			}
		})
	}
	group.Wait()
}
