package program

import (
	"bytes"
	"math"
	"reflect"
	"runtime"
	"slices"
	"strings"
	"sync"
	"testing"
	"time"
	"unsafe"

	"stencil/api"
)

// TestR1AnyBytes: whatever bytes are handed in, there is an answer, and it is the one that was asked for.
func TestR1AnyBytes(t *testing.T) {
	t.Parallel()
	m := newMaker(215)
	for range 60000 {
		b := make([]byte, m.Intn(40))
		m.Read(b)
		for i := range b {
			if m.chance(2) {
				b[i] %= 4
			}
		}
		expectJudged(t, b)
		expectJudged(t, join(1, b))
	}
}

// TestR1AnyProgram: programs of which many things are wrong at once.
func TestR1AnyProgram(t *testing.T) {
	t.Parallel()
	m := newMaker(216)
	for range 20000 {
		p := m.program()
		for range m.Intn(8) {
			m.bend(&p)
		}
		if b, code := Encode(p); lawful(p) != (code == api.OK) || code != api.OK && (b != nil || code != api.ErrProgramForm) {
			t.Fatalf("%s: %d", shown(p), code)
		}
	}
}

// TestR1Shared: what lies in itself many times over is not all gone through.
func TestR1Shared(t *testing.T) {
	for _, tree := range []api.Tree{elem("p"), text("x"), elem("P")} {
		for range 4000 {
			tree = elem("p", tree, tree)
		}
		expectNoBytes(t, statics(tree), api.ErrProgramForm)
		expectNoBytes(t, api.Program{Texts: slices.Repeat([]string{strings.Repeat("x", 4096)}, 300), Statics: []api.Tree{tree}}, api.ErrProgramForm)
	}
	expectNoBytes(t, statics(deep(4096)), api.ErrProgramForm)
}

// TestR1Huge: what is far above a limit, and what is far more than MaxProgram bytes though each list is of its limit.
func TestR1Huge(t *testing.T) {
	t.Parallel()
	const million = 1 << 20
	long := strings.Repeat("x", 1<<24)
	for _, p := range []api.Program{
		{Texts: make([]string, million)}, {Texts: []string{long}}, {Codes: make([][]api.Inst, million)}, insts(make([]api.Inst, million)...),
		statics(make([]api.Tree, million)...), statics(many(million)), statics(text(long)), statics(elem(long)), statics(withAttrs("p", "a", long)),
		{Blocks: make([]api.Block, million)}, ops(make([]api.Op, million)...), ops(api.Op{List: make([]int, million)}), {Blocks: []api.Block{{Update: make([]int, million)}}},
	} {
		expectNoBytes(t, p, api.ErrProgramForm)
	}
	code, row := make([]api.Inst, 8192), make([]int, 8192)
	block := api.Block{Ops: slices.Repeat([]api.Op{{List: row[:64]}}, 256), Update: row}
	for _, p := range []api.Program{
		{Texts: slices.Repeat([]string{long[:4096]}, 16384)}, {Codes: slices.Repeat([][]api.Inst{code}, 1024)}, statics(slices.Repeat([]api.Tree{many(4095)}, 1024)...), {Blocks: slices.Repeat([]api.Block{block}, 1024)},
	} {
		expectNoBytes(t, p, api.ErrProgramLong)
		var w writer
		if w.program(p); cap(w.out) > 2*million {
			t.Errorf("%d bytes are held", cap(w.out))
		}
		p.Blocks = append(slices.Clone(p.Blocks), api.Block{Depth: 65})
		expectNoBytes(t, p, api.ErrProgramForm)
	}
}

// TestR1Room: a count that says more than there is makes no room for it.
func TestR1Room(t *testing.T) {
	nested := join(1, 0, 0, 1)
	for range 64 {
		nested = join(nested, 1, 'p', 0, 0x80, 0x20)
	}
	for _, b := range [][]byte{join(1, 0x80, 0x80, 1), join(1, 0, 0x80, 0x40), join(1, 0, 0, 0, 0x80, 0x40), nested} {
		var before, after runtime.MemStats
		runtime.ReadMemStats(&before)
		for range 100 {
			Decode(b)
		}
		runtime.ReadMemStats(&after)
		if each := (after.TotalAlloc - before.TotalAlloc) / 100; each > 32768 {
			t.Errorf("%d bytes for %d", each, len(b))
		}
	}
}

// spent is the least time that so many calls take.
func spent(n int, call func()) time.Duration {
	least := time.Hour
	for range 8 {
		begun := time.Now()
		for range n {
			call()
		}
		least = min(least, time.Since(begun))
	}
	return least
}

// sized are calls whose arguments are so many fifteenths of what they may be, about.
func sized(n int) map[string]func() {
	calls := map[string]func(){}
	for name, p := range map[string]api.Program{
		"texts": {Texts: slices.Repeat([]string{strings.Repeat("é", 2000)}, n*16)},
		"short": {Texts: slices.Repeat([]string{"é"}, n*1000)},
		"codes": {Codes: slices.Repeat([][]api.Inst{make([]api.Inst, 500)}, n*60)},
		"flat":  statics(many(n * 270)),
		"wide":  statics(api.Tree{Tag: "p", Attrs: attrsOf(n * 270)}),
		"deep":  statics(slices.Repeat([]api.Tree{deep(64)}, n*100)...),
		"ops":   {Blocks: slices.Repeat([]api.Block{{Ops: make([]api.Op, 100), Update: make([]int, 100)}}, n*80)},
	} {
		b := scribed(p).bytes
		calls["write "+name] = func() {
			if _, code := Encode(p); code != api.OK {
				panic(code)
			}
		}
		calls["read "+name] = func() {
			if _, _, code := Decode(b); code != api.OK {
				panic(code)
			}
		}
	}
	return calls
}

// TestR1Time: what is fifteen times as large takes about fifteen times as long.
func TestR1Time(t *testing.T) {
	small, large := sized(1), sized(15)
	for name, many := range large {
		short, long := spent(15, small[name]), spent(1, many)
		if long > 8*short+10*time.Millisecond {
			t.Errorf("%s: %v, fifteen of a fifteenth %v", name, long, short)
		}
	}
}

// TestR2Zero: beside an error nothing is answered, however far the writing or reading went.
func TestR2Zero(t *testing.T) {
	p := api.Program{Texts: []string{"a"}, Codes: [][]api.Inst{{{Op: 1}}}, Statics: []api.Tree{elem("p")}, Blocks: []api.Block{{Ops: []api.Op{{A: 1}}}}}
	b := scribed(p).bytes
	for size := range b {
		if got, _, code := Decode(b[:size]); !reflect.DeepEqual(got, api.Program{}) || code != api.ErrProgramForm {
			t.Errorf("%s, %d", shown(got), code)
		}
	}
	if got, at, code := Decode(b); at != 0 || code != api.OK || !alike(got, p) {
		t.Errorf("%s, %d, %d", shown(got), at, code)
	}
	p.Blocks[0].Ops[0].Kind = -1
	if got, code := Encode(p); got != nil || code != api.ErrProgramForm {
		t.Errorf("%v, %d", got, code)
	}
}

// Lists of anything, and what lies behind their ends.

// visit calls met with each list that lies in x, the inner ones behind those that hold them.
func visit(x reflect.Value, met func(list reflect.Value)) {
	switch x.Kind() {
	case reflect.Struct:
		for i := range x.NumField() {
			visit(x.Field(i), met)
		}
	case reflect.Slice:
		met(x)
		for i := range x.Len() {
			visit(x.Index(i), met)
		}
	}
}

// copied is a copy of x in which each list is what made makes of it.
func copied[T any](x T, made func(list reflect.Value) reflect.Value) T {
	visit(reflect.ValueOf(&x).Elem(), func(list reflect.Value) { list.Set(made(list)) })
	return x
}

// roomy is a copy of a list with room for two more, which holds marks.
func roomy(list reflect.Value) reflect.Value {
	out := reflect.MakeSlice(list.Type(), list.Len()+2, list.Len()+2)
	reflect.Copy(out, list)
	for i := list.Len(); i < out.Len(); i++ {
		mark(out.Index(i))
	}
	return out.Slice(0, list.Len())
}

// mark fills all numbers and texts.
func mark(x reflect.Value) {
	switch x.Kind() {
	case reflect.Int:
		x.SetInt(77)
	case reflect.Uint8:
		x.SetUint(77)
	case reflect.String:
		x.SetString("mark")
	case reflect.Struct:
		for i := range x.NumField() {
			mark(x.Field(i))
		}
	}
}

// opened is a copy of a list to the end of its room.
func opened(list reflect.Value) reflect.Value {
	out := reflect.MakeSlice(list.Type(), list.Cap(), list.Cap())
	reflect.Copy(out, list.Slice(0, list.Cap()))
	return out
}

// cells counts the cells of all lists in x by their addresses, those of their room too.
func cells(x any, met map[unsafe.Pointer]int) {
	visit(reflect.ValueOf(x), func(list reflect.Value) {
		all := list.Slice(0, list.Cap())
		for i := range all.Len() {
			met[all.Index(i).Addr().UnsafePointer()]++
		}
	})
}

// spoil overwrites the cells of all lists in x, to the ends of their room.
func spoil(x any) {
	var all []reflect.Value
	visit(reflect.ValueOf(x), func(list reflect.Value) { all = append(all, list.Slice(0, list.Cap())) })
	for _, list := range all {
		for i := range list.Len() {
			mark(list.Index(i))
		}
	}
}

// TestR4ArgumentsStay: nothing that is handed in is changed, nor the room of its lists, whether it may be or not.
func TestR4ArgumentsStay(t *testing.T) {
	t.Parallel()
	m := newMaker(217)
	for range 3000 {
		p := m.program()
		b := scribed(p).bytes
		if m.chance(2) {
			m.bend(&p)
			b = m.bent(b)
		}
		p, b = copied(p, roomy), copied(b, roomy)
		wasProgram, wasBytes := copied(p, opened), copied(b, opened)
		Encode(p)
		Decode(b)
		if !reflect.DeepEqual(copied(p, opened), wasProgram) || !bytes.Equal(b[:cap(b)], wasBytes) {
			t.Fatalf("changed: %s, %v", shown(p), b)
		}
	}
}

// TestR4NewMemory: no two lists of one answer, nor of two, nor one of what was handed in, share memory, their room neither.
func TestR4NewMemory(t *testing.T) {
	m, met := newMaker(218), map[unsafe.Pointer]int{}
	// All of it is held, so that no address is given twice.
	var all []any
	for range 300 {
		p := copied(m.program(), roomy)
		b := copied(scribed(p).bytes, roomy)
		all = append(all, p, b)
		for range 2 {
			written, _ := Encode(p)
			read, _, _ := Decode(b)
			back, _, _ := Decode(written)
			all = append(all, written, read, back)
		}
	}
	for _, one := range all {
		cells(one, met)
	}
	if len(met) < 10000 {
		t.Errorf("only %d cells", len(met))
	}
	for _, n := range met {
		if n != 1 {
			t.Fatalf("a cell lies in %d lists", n)
		}
	}
}

// sample is a program with something in each of its lists; each call makes it anew.
func sample() api.Program {
	tree := elem("p", elem("q", text("deep")), text("flat"))
	tree.Attrs = []api.Attr{{Name: "a", Value: "one"}, {Name: "b", Value: "two"}}
	return api.Program{
		Texts: []string{"first", "", "third"}, Codes: [][]api.Inst{{{Op: 4, A: 7}, {Op: 10}}, nil, {{Op: 1}}}, Statics: []api.Tree{tree, text("own")},
		Blocks: []api.Block{{Depth: 1, Ops: []api.Op{{Kind: 10, A: 1, B: 2, C: 3, List: []int{4, 5}}, {Kind: 6}}, Update: []int{0, 1}}, {Depth: 2}},
	}
}

// TestR4NothingKept overwrites what was handed in, and what was answered: neither an earlier nor a later answer changes.
func TestR4NothingKept(t *testing.T) {
	want := scribed(sample()).bytes
	p, b := copied(sample(), roomy), slices.Clone(want)
	written, _ := Encode(p)
	read, _, _ := Decode(b)
	again, _, _ := Decode(b)
	spoil(p)
	spoil(b)
	spoil(again)
	if !bytes.Equal(written, want) || !alike(read, sample()) {
		t.Errorf("%v, %s", written, shown(read))
	}
	spoil(read)
	if !bytes.Equal(written, want) {
		t.Errorf("%v", written)
	}
	spoil(written)
	expectBoth(t, sample(), want)
}

// TestR5Alike: equal calls answer alike, whatever was asked ahead, faults among it.
func TestR5Alike(t *testing.T) {
	t.Parallel()
	m := newMaker(219)
	for range 2000 {
		p, other := m.program(), m.program()
		if m.chance(2) {
			m.bend(&p)
		}
		b, code := Encode(p)
		bytes1 := m.bent(scribed(p).bytes)
		read, at, fault := Decode(bytes1)
		m.bend(&other)
		Encode(other)
		Decode(m.bent(scribed(other).bytes))
		b2, code2 := Encode(copied(p, roomy))
		read2, at2, fault2 := Decode(copied(bytes1, roomy))
		if !bytes.Equal(b, b2) || code != code2 || !reflect.DeepEqual(read, read2) || at != at2 || fault != fault2 {
			t.Fatalf("%s, %v", shown(p), bytes1)
		}
	}
}

// TestR5Goroutines: calls at one time, with the same arguments, answer as calls one by one.
func TestR5Goroutines(t *testing.T) {
	p, want := sample(), scribed(sample()).bytes
	var group sync.WaitGroup
	for n := range 8 {
		group.Go(func() {
			m := newMaker(int64(n))
			for range 200 {
				expectBoth(t, p, want)
				expectFault(t, want[:len(want)-1], len(want)-1)
				expectJudged(t, m.bent(want))
				expectNoBytes(t, api.Program{Texts: p.Texts, Blocks: []api.Block{{Depth: math.MinInt64}}}, api.ErrProgramForm)
			}
		})
	}
	group.Wait()
}
