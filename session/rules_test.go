package session

import (
	"bytes"
	"math"
	"reflect"
	"slices"
	"strings"
	"sync"
	"testing"
	"unsafe"

	"stencil/api"
)

// visit calls met with each list that lies in x, those that hold others ahead of them.
func visit(x reflect.Value, met func(list reflect.Value)) {
	switch x.Kind() {
	case reflect.Struct:
		for i := range x.NumField() {
			visit(x.Field(i), met)
		}
	case reflect.Slice:
		met(x)
		for i := range x.Len() {
			visit(x.Index(i), met)
		}
	}
}

// mark fills all numbers and texts.
func mark(x reflect.Value) {
	switch x.Kind() {
	case reflect.Int:
		x.SetInt(77)
	case reflect.Bool:
		x.SetBool(!x.Bool())
	case reflect.String:
		x.SetString("mark")
	case reflect.Struct:
		for i := range x.NumField() {
			mark(x.Field(i))
		}
	}
}

// cells counts the cells of all lists in x by their addresses, those of their room too.
func cells(x any, met map[unsafe.Pointer]int) {
	visit(reflect.ValueOf(x), func(list reflect.Value) {
		all := list.Slice(0, list.Cap())
		for i := range all.Len() {
			met[all.Index(i).Addr().UnsafePointer()]++
		}
	})
}

// spoil overwrites the cells of all lists in x, to the ends of their room.
func spoil(x any) {
	var all []reflect.Value
	visit(reflect.ValueOf(x), func(list reflect.Value) { all = append(all, list.Slice(0, list.Cap())) })
	for _, list := range all {
		for i := range list.Len() {
			mark(list.Index(i))
		}
	}
}

// roomy are the bytes of a text with room behind them, which holds marks.
func roomy(s string) []byte {
	d := append([]byte(s), "marks"...)
	return d[:len(s):len(d)]
}

// kept is a template that shows of a state all that can be kept of it: texts, the values of attributes, keys, lists; and states that fit it.
func kept() (string, []string) {
	s := `<def name="d" props="t"><q :a="t"><slot :u="t">n</slot></q></def><p :a="v" b="c">x{{ v }}</p><for each="x" at="i" :in="l" :key="x"><li :n="i">{{ x }}<d :t="x"><fill let="u">{{ u }}{{ v }}</fill></d></li></for><if :test="b"><i>y<b/></i></if><else>{{ w }}</else>`
	return s, []string{
		`{"v": "one", "w": "two", "b": false, "l": ["k1", "k2", 3]}`, `{"v": "one", "w": "two", "b": false, "l": ["k2", "k4", "k1", 3]}`, `{"v": "\u00e9", "w": "", "b": true, "l": [3]}`, `{"v": null, "w": 7, "b": true, "l": []}`, `{"v": true, "w": "x", "b": false, "l": [4, "k2"]}`,
	}
}

// TestR1Any: whatever a session is made of and given, there is an answer; and what is told hangs together.
func TestR1Any(t *testing.T) {
	t.Parallel()
	m, met := newMaker(261), map[api.Errno]int{}
	some := []string{"<", ">", "/", `"`, "=", "{{", "}}", "{", "}", "&", ";", ":", " ", "p", "v", "if", "else", "for", "def", "slot", "fill", "<p>", "</p>", "<p/>", `<if :test="b">`, "</if>", "\xff", "é", "\x00", `name="d"`, "<d/>", "[", "]", ",", "1", "-", "0", `"x":`, "null", "true"}
	anything := func(n int) string {
		var out strings.Builder
		for range m.Intn(n) {
			out.WriteString(m.word(some...))
		}
		return out.String()
	}
	for i := range 20000 {
		s := anything(14)
		if i%8 == 0 {
			s = m.spoilt(m.template(3))
		}
		room := []int{9, 1, 0, -1, 60, api.MaxRoom, math.MaxInt, math.MinInt, 2}[min(m.Intn(20), 8)]
		x, at, code := New(s, room, settings()[i%8])
		met[code]++
		if (x == nil) != (code != api.OK) || at < 0 || at > len(s) || code == api.OK && at != 0 {
			t.Fatalf("%d at %d: %s", code, at, cut(s))
		}
		for range 5 {
			c := told{call: m.word("mount", "update", "unmount"), d: m.word(anything(9), `{"v": 1, "b": true, "l": []}`, `1`)}
			if got := c.of(x); x == nil && got != api.ErrNil {
				t.Fatal(got)
			}
			if len(x.Forest()) == 0 && x.Html() != "" {
				t.Fatal(x.Html())
			}
		}
	}
	for _, code := range []api.Errno{api.OK, api.ErrLexTag, api.ErrLexUtf, api.ErrLexBrace, api.ErrLexEntity, api.ErrSyntaxTag, api.ErrSyntaxExpr, api.ErrVmRoom} {
		if met[code] < 20 {
			t.Errorf("few of %d: %v", code, met)
		}
	}
}

// expectNone holds that a session that is none refuses what may be refused, and holds nothing.
func expectNone(t *testing.T, x *Session) {
	t.Helper()
	for _, d := range [][]byte{nil, []byte(`{}`), []byte(`{`)} {
		if x.Mount(d) != api.ErrNil || x.Update(d) != api.ErrNil || x.Unmount() != api.ErrNil {
			t.Errorf("%d, %d, %d", x.Mount(d), x.Update(d), x.Unmount())
		}
	}
	if x.Cells() != nil || x.Free() != nil || x.Counts() != (api.Counts{}) || x.Forest() != nil || x.Html() != "" {
		t.Errorf("%+v", pictureOf(x))
	}
}

// TestR3Nil: what the methods of no session answer; one that New did not make is none.
func TestR3Nil(t *testing.T) {
	expectNone(t, nil)
	expectNone(t, new(Session))
}

// TestR2Refused: beside an error there is no session, and a place is told of a text alone.
func TestR2Refused(t *testing.T) {
	for s, code := range map[string]api.Errno{"<p></p": api.ErrLexTag, "xx</p>": api.ErrSyntaxTag, "xx<slot/>": api.ErrCheckSlot, "xx": api.ErrVmRoom} {
		want := map[api.Errno]int{api.ErrLexTag: 6, api.ErrSyntaxTag: 2, api.ErrCheckSlot: 2}[code]
		if x, at, got := New(s, 0, api.Options{}); x != nil || got != code || at != want {
			t.Errorf("%s: %d at %d", s, got, at)
		}
	}
}

// TestR4ArgumentsStay: the bytes that are handed in stay, their room too, whether they are taken or not.
func TestR4ArgumentsStay(t *testing.T) {
	t.Parallel()
	m := newMaker(262)
	for i := range 300 {
		s := m.template(4)
		x, _, code := New(s, 100, settings()[i%8])
		if code != api.OK {
			continue
		}
		for range 6 {
			d := roomy(m.state(1))
			before := bytes.Clone(d[:cap(d)])
			x.Mount(d)
			x.Update(d)
			if !bytes.Equal(d[:cap(d)], before) {
				t.Fatalf("changed: %s, %s", d[:cap(d)], before)
			}
		}
	}
}

// TestR4NothingKept overwrites the bytes behind each call: all goes on as if they were still there.
func TestR4NothingKept(t *testing.T) {
	s, states := kept()
	for _, o := range settings() {
		x, other := started(t, s, 60, o), started(t, s, 60, o)
		for i, d := range slices.Concat(states, states, states[:2]) {
			own := roomy(d)
			call := (*Session).Update
			if i == 0 {
				call = (*Session).Mount
			}
			if call(x, own) != api.OK || call(other, []byte(d)) != api.OK {
				t.Fatalf("refused: %s", d)
			}
			for at := range own[:cap(own)] {
				own[:cap(own)][at] = '7'
			}
			if got, want := pictureOf(x), pictureOf(other); !got.same(want) {
				t.Fatalf("step %d: %s, want %s", i, cut(got), cut(want))
			}
		}
		if x.Unmount() != api.OK || other.Unmount() != api.OK || !pictureOf(x).same(pictureOf(other)) {
			t.Error("not alike in the end")
		}
	}
}

// TestR4NewMemory: no two lists of one answer, nor of two, share memory, their room neither.
func TestR4NewMemory(t *testing.T) {
	s, states := kept()
	met := map[unsafe.Pointer]int{}
	// All answers are held, so that no address is given twice.
	var held []any
	for _, x := range all(t, s, 60) {
		x.Mount([]byte(states[0]))
		for _, d := range states {
			if x.Update([]byte(d)) != api.OK {
				t.Fatalf("refused: %s", d)
			}
			for range 2 {
				held = append(held, x.Cells(), x.Free(), x.Forest())
			}
		}
	}
	for _, one := range held {
		cells(one, met)
	}
	if len(met) < 5000 {
		t.Errorf("only %d cells", len(met))
	}
	for _, n := range met {
		if n != 1 {
			t.Fatalf("a cell lies in %d lists", n)
		}
	}
}

// TestR4AnswersSpoilt overwrites what is answered: what the session holds does not change by it.
func TestR4AnswersSpoilt(t *testing.T) {
	s, states := kept()
	h := newHerd(t, s, 60)
	for _, d := range slices.Concat(states, states) {
		for _, x := range append(h.sessions, h.straight) {
			spoil(x.Cells())
			spoil(x.Free())
			spoil(x.Forest())
			if h.asked.mounted && !pictureOf(x).same(h.asked.picture()) {
				t.Fatalf("%s, want %s", cut(pictureOf(x)), cut(h.asked.picture()))
			}
		}
		if h.take(t, d) != api.OK {
			t.Fatalf("refused: %s", d)
		}
	}
	h.unmount(t)
}

// TestR5TwoSessions: sessions called in turns, two of one template and one of another, do not touch one another.
func TestR5TwoSessions(t *testing.T) {
	t.Parallel()
	m, met := newMaker(263), map[api.Errno]int{}
	for range 60 {
		var herds []*herd
		for _, s := range []string{m.word(pages()...), m.word(pages()...)} {
			herds = append(herds, newHerd(t, s, 100), newHerd(t, s, 100))
		}
		for range 12 {
			one := m.Intn(len(herds))
			m.run(t, herds[one], 1, func() string { return m.state(1) }, met)
			for _, h := range herds {
				if !pictureOf(h.straight).same(h.asked.picture()) {
					t.Fatalf("touched: %s: %s, want %s", cut(h.text), cut(pictureOf(h.straight)), cut(h.asked.picture()))
				}
			}
		}
	}
	expectMet(t, met, 100, api.OK)
}

// TestR5Alike: equal calls of two sessions answer alike, whatever was asked of others ahead.
func TestR5Alike(t *testing.T) {
	t.Parallel()
	s, states := kept()
	for i, wrong := range []string{"", "<p>", "<slot/>", "<p/>", "{{ 1 / 0 }}", strings.Repeat("x", api.MaxTemplate+1), strings.Repeat("<p/>", api.MaxCore+1), s} {
		New(wrong, 60, settings()[i])
		New(s, 0, settings()[i])
		second := started(t, s, 60, settings()[7-i])
		first := started(t, s, 60, settings()[i])
		first.Mount([]byte(states[0]))
		between := started(t, s, 60, settings()[i])
		between.Mount([]byte(states[1]))
		second.Mount([]byte(states[0]))
		for _, d := range slices.Concat(states, []string{"{", "", "{}", `{"v": []}`, "[1]"}, states) {
			a := first.Update([]byte(d))
			between.Update([]byte(states[len(d)%5]))
			if b := second.Update([]byte(d)); a != b || !pictureOf(first).same(pictureOf(second)) {
				t.Fatalf("%d, %d: %s, %s", a, b, cut(pictureOf(first)), cut(pictureOf(second)))
			}
		}
	}
}

// TestR5Goroutines: sessions that are made and called at one time, of one text and one list of bytes, answer as one by one.
func TestR5Goroutines(t *testing.T) {
	s, states := kept()
	var given [][]byte
	for _, d := range states {
		given = append(given, []byte(d))
	}
	run := func(o api.Options) []picture {
		var out []picture
		x, _, _ := New(s, 60, o)
		for i, d := range given {
			if i == 0 {
				x.Mount(d)
			}
			x.Update(d)
			out = append(out, pictureOf(x))
		}
		return out
	}
	want := run(api.Options{})
	var group sync.WaitGroup
	for i := range 8 {
		group.Go(func() {
			for range 30 {
				if got := run(settings()[i]); !slices.EqualFunc(got, want, picture.same) {
					t.Errorf("%s, want %s", cut(got), cut(want))
				}
				if _, at, code := New(`xx<p>`, i, settings()[i]); at != 2 || code != api.ErrSyntaxTag {
					t.Errorf("%d at %d", code, at)
				}
			}
		})
	}
	group.Wait()
}
