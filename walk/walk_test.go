package walk

import (
	"fmt"
	"reflect"
	"slices"
	"strings"
	"testing"

	"stencil/api"
	"stencil/check"
	"stencil/data"
	"stencil/syntax"
)

// recorder tells all that it is handed, and keeps the lists.
type recorder struct {
	strings.Builder
	attrs [][]api.Attr
	keys  [][]api.Key
}

func (r *recorder) Text(number int, text string) { fmt.Fprintf(r, "%d%q ", number, text) }

func (r *recorder) Element(number int, tag string, attrs []api.Attr, kids func()) {
	fmt.Fprintf(r, "%d<%s%v ", number, tag, attrs)
	r.attrs = append(r.attrs, attrs)
	kids()
	r.WriteString("> ")
}

func (r *recorder) Loop(number int, keys []api.Key, kid func(i int)) {
	fmt.Fprintf(r, "%d[", number)
	for _, key := range keys {
		fmt.Fprintf(r, "%d%s,", key.Int, key.Str)
	}
	r.WriteString(" ")
	r.keys = append(r.keys, keys)
	for i := range keys {
		kid(i)
	}
	r.WriteString("] ")
}

func read(t *testing.T, s, state string) ([]api.Core, api.Value) {
	t.Helper()
	ns, _, first := syntax.Parse(s)
	cs, _, second := check.Check(ns)
	v, _, third := data.Parse([]byte(state))
	if first != api.OK || second != api.OK || third != api.OK {
		t.Fatalf("%s, %s: %d, %d, %d", s, state, first, second, third)
	}
	return cs, v
}

const page = `<def name="d" props="p"><i :a="p"/></def>x{{ n }}<if :test="b"><p/></if><else>y<q c="1" :d="n" :e="b"/></else><for each="x" at="i" :in="l" :key="x"><u><d :p="x"/>{{ i }}</u></for>z`

// TestThrough: each thing that is met, with its number, and what lies in it.
func TestThrough(t *testing.T) {
	for _, c := range []struct{ s, state, want string }{
		{``, `{}`, ``}, {`x<p/>`, `{}`, `0"x" 1<p[] > `},
		{page, `{"n": 3, "b": false, "l": []}`, `0"x3" 3"y" 4<q[{c 1} {d 3}] > 5[ ] 10"z" `},
		{page, `{"n": null, "b": true, "l": [7, "k"]}`, `0"x" 2<p[] > 5[7,0k, 6<u[] 8<i[{a 7}] > 9"0" > 6<u[] 8<i[{a k}] > 9"1" > ] 10"z" `},
	} {
		cs, v := read(t, c.s, c.state)
		var r recorder
		if code := Through(cs, v, &r); code != api.OK || r.String() != c.want {
			t.Errorf("%s of %s: %s, %d, want %s", c.s, c.state, r.String(), code, c.want)
		}
	}
}

// TestThroughFaults: the core's error, then the state's, of which nothing is met; then the first on the way, behind all that stands ahead of it.
func TestThroughFaults(t *testing.T) {
	cs, v := read(t, `x<p>{{ a }}</p>{{ b }}`, `{"b": 1}`)
	for _, c := range []struct {
		cs   []api.Core
		v    api.Value
		met  string
		code api.Errno
	}{
		{append(slices.Clone(cs), api.Core{}), api.Value{}, ``, api.ErrCoreForm}, {cs, api.Value{}, ``, api.ErrValueKind}, {cs, v, `0"x" 1<p[] `, api.ErrEvalPath}, {cs[:1], v, `0"x" `, api.OK},
	} {
		var r recorder
		if code := Through(c.cs, c.v, &r); code != c.code || r.String() != c.met {
			t.Errorf("%s, %d, want %s, %d", r.String(), code, c.met, c.code)
		}
	}
}

// TestThroughNew: the lists that a maker is handed are new ones, and its own.
func TestThroughNew(t *testing.T) {
	cs, v := read(t, page, `{"n": 1, "b": false, "l": ["a", "b"]}`)
	var first, second recorder
	Through(cs, v, &first)
	for _, attrs := range first.attrs {
		clear(attrs)
	}
	for _, keys := range first.keys {
		clear(keys)
	}
	Through(cs, v, &second)
	if first.String() != second.String() || reflect.DeepEqual(first.attrs, second.attrs) {
		t.Errorf("%s, %s", first.String(), second.String())
	}
}

// TestSizes: a node with all that lies in it, by its number.
func TestSizes(t *testing.T) {
	cs, _ := read(t, page, `{}`)
	want := []int{1, 4, 1, 1, 1, 5, 4, 2, 1, 1, 1}
	if got := sizes(nil, cs); !slices.Equal(got, want) {
		t.Errorf("%v, want %v", got, want)
	}
	if got := sizes(nil, nil); len(got) != 0 {
		t.Errorf("%v", got)
	}
}

// TestAt: a place of the stack, and none.
func TestAt(t *testing.T) {
	held := Places{{Kind: api.KNull}, {Kind: api.KInt, Int: 5}}
	for place, want := range map[int]int{-1: 0, 0: api.KNull, 1: api.KInt, 2: 0, 1 << 40: 0} {
		v, ok := held.At(api.Expr{Op: api.EVar, Int: place})
		if v.Kind != want || ok != (want != 0) {
			t.Errorf("%d: %v, %v", place, v, ok)
		}
	}
}
