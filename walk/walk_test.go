package walk

import (
	"fmt"
	"reflect"
	"slices"
	"strings"
	"testing"

	"stencil/api"
	"stencil/check"
	"stencil/data"
	"stencil/syntax"
)

// recorder tells all that it is handed, and keeps the lists.
type recorder struct {
	strings.Builder
	attrs [][]api.Attr
	keys  [][]api.Key
}

func (r *recorder) Text(number int, text string) { fmt.Fprintf(r, "%d%q ", number, text) }

func (r *recorder) Element(number int, tag string, attrs []api.Attr, kids func()) {
	fmt.Fprintf(r, "%d<%s%v ", number, tag, attrs)
	r.attrs = append(r.attrs, attrs)
	kids()
	r.WriteString("> ")
}

func (r *recorder) Loop(number int, keys []api.Key, kid func(i int)) {
	fmt.Fprintf(r, "%d[", number)
	for _, key := range keys {
		fmt.Fprintf(r, "%d%s,", key.Int, key.Str)
	}
	r.WriteString(" ")
	r.keys = append(r.keys, keys)
	for i := range keys {
		kid(i)
	}
	r.WriteString("] ")
}

func read(t *testing.T, s, state string) ([]api.Core, api.Value) {
	t.Helper()
	ns, _, first := syntax.Parse(s)
	cs, _, second := check.Check(ns)
	v, _, third := data.Parse([]byte(state))
	if first != api.OK || second != api.OK || third != api.OK {
		t.Fatalf("%s, %s: %d, %d, %d", s, state, first, second, third)
	}
	return cs, v
}

const page = `<def name="d" props="p"><i :a="p"/></def>x{{ n }}<if :test="b"><p/></if><else>y<q c="1" :d="n" :e="b"/></else><for each="x" at="i" :in="l" :key="x"><u><d :p="x"/>{{ i }}</u></for>z`

// TestThrough: each thing that is met, with its number, and what lies in it.
func TestThrough(t *testing.T) {
	for _, c := range []struct{ s, state, want string }{
		{``, `{}`, ``}, {`x<p/>`, `{}`, `0"x" 1<p[] > `},
		{page, `{"n": 3, "b": false, "l": []}`, `0"x3" 3"y" 4<q[{c 1} {d 3}] > 5[ ] 10"z" `},
		{page, `{"n": null, "b": true, "l": [7, "k"]}`, `0"x" 2<p[] > 5[7,0k, 6<u[] 8<i[{a 7}] > 9"0" > 6<u[] 8<i[{a k}] > 9"1" > ] 10"z" `},
	} {
		cs, v := read(t, c.s, c.state)
		var r recorder
		if code := Through(cs, v, &r); code != api.OK || r.String() != c.want {
			t.Errorf("%s of %s: %s, %d, want %s", c.s, c.state, r.String(), code, c.want)
		}
	}
}

// TestThroughFaults: the core's error, then the state's, of which nothing is met; then the first on the way, behind all that stands ahead of it.
func TestThroughFaults(t *testing.T) {
	cs, v := read(t, `x<p>{{ a }}</p>{{ b }}`, `{"b": 1}`)
	for _, c := range []struct {
		cs   []api.Core
		v    api.Value
		met  string
		code api.Errno
	}{
		{append(slices.Clone(cs), api.Core{}), api.Value{}, ``, api.ErrCoreForm}, {cs, api.Value{}, ``, api.ErrValueKind}, {cs, v, `0"x" 1<p[] `, api.ErrEvalPath}, {cs[:1], v, `0"x" `, api.OK},
	} {
		var r recorder
		if code := Through(c.cs, c.v, &r); code != c.code || r.String() != c.met {
			t.Errorf("%s, %d, want %s, %d", r.String(), code, c.met, c.code)
		}
	}
}

// TestThroughNew: the lists that a maker is handed are new ones, and its own.
func TestThroughNew(t *testing.T) {
	cs, v := read(t, page, `{"n": 1, "b": false, "l": ["a", "b"]}`)
	var first, second recorder
	Through(cs, v, &first)
	for _, attrs := range first.attrs {
		clear(attrs)
	}
	for _, keys := range first.keys {
		clear(keys)
	}
	Through(cs, v, &second)
	if first.String() != second.String() || reflect.DeepEqual(first.attrs, second.attrs) {
		t.Errorf("%s, %s", first.String(), second.String())
	}
}

// TestSizes: a node with all that lies in it, by its number.
func TestSizes(t *testing.T) {
	cs, _ := read(t, page, `{}`)
	want := []int{1, 4, 1, 1, 1, 5, 4, 2, 1, 1, 1}
	if got := sizes(nil, cs); !slices.Equal(got, want) {
		t.Errorf("%v, want %v", got, want)
	}
	if got := sizes(nil, nil); len(got) != 0 {
		t.Errorf("%v", got)
	}
}

// TestAt: a place of the stack, and none.
func TestAt(t *testing.T) {
	held := Places{{Kind: api.KNull}, {Kind: api.KInt, Int: 5}}
	for place, want := range map[int]int{-1: 0, 0: api.KNull, 1: api.KInt, 2: 0, 1 << 40: 0} {
		v, ok := held.At(api.Expr{Op: api.EVar, Int: place})
		if v.Kind != want || ok != (want != 0) {
			t.Errorf("%d: %v, %v", place, v, ok)
		}
	}
}

// thrown is the error that a call throws, OK, if it throws none.
func thrown(call func()) (code api.Errno) {
	defer func() {
		if x, ok := recover().(api.Errno); ok {
			code = x
		}
	}()
	call()
	return api.OK
}

func number(n int) api.Value { return api.Value{Kind: api.KInt, Int: n} }

// TestAsked: what a value of each kind is taken as, or that it is not.
func TestAsked(t *testing.T) {
	list := []api.Value{number(4)}
	for _, c := range []struct {
		v                       api.Value
		text, attr              string
		isText, isTest, isList  bool
		attrTaken, isAttr, test bool
	}{
		{v: api.Value{Kind: api.KNull}, isText: true, attrTaken: true},
		{v: api.Value{Kind: api.KBool}, text: "false", isText: true, attrTaken: true, isTest: true},
		{v: api.Value{Kind: api.KBool, Bool: true}, text: "true", isText: true, attrTaken: true, isAttr: true, isTest: true, test: true},
		{v: number(-3), text: "-3", isText: true, attr: "-3", attrTaken: true, isAttr: true},
		{v: api.Value{Kind: api.KStr, Str: "x"}, text: "x", isText: true, attr: "x", attrTaken: true, isAttr: true},
		{v: api.Value{Kind: api.KStr}, isText: true, attrTaken: true, isAttr: true},
		{v: api.Value{Kind: api.KList, List: list}, isList: true},
		{v: api.Value{Kind: api.KRec, Names: []string{"a"}, List: list}},
	} {
		var got string
		var is bool
		var taken []api.Value
		refused := func(is bool) api.Errno { return map[bool]api.Errno{true: api.OK, false: api.ErrEvalType}[is] }
		if code := thrown(func() { got = Text(c.v) }); code != refused(c.isText) || got != c.text {
			t.Errorf("%v: text %q, %d", c.v, got, code)
		}
		got = ""
		if code := thrown(func() { got, is = Attr(c.v) }); code != refused(c.attrTaken) || got != c.attr || is != c.isAttr {
			t.Errorf("%v: attribute %q, %v, %d", c.v, got, is, code)
		}
		is = false
		if code := thrown(func() { is = Truth(c.v) }); code != refused(c.isTest) || is != c.test {
			t.Errorf("%v: test %v, %d", c.v, is, code)
		}
		if code := thrown(func() { taken = List(c.v) }); code != refused(c.isList) || (len(taken) == 1) != c.isList {
			t.Errorf("%v: list %v, %d", c.v, taken, code)
		}
	}
}

// TestKeys: each is reckoned with its element and number on the stack, which is as it was then; the first error is thrown.
func TestKeys(t *testing.T) {
	held := Places{number(9)}
	list := []api.Value{number(5), {Kind: api.KStr, Str: "5"}, number(0), {Kind: api.KNull}}
	asked := ""
	key := func() api.Value {
		asked += fmt.Sprintf("%d %d%s %d, ", len(held), held[1].Int, held[1].Str, held[2].Int)
		return held[1]
	}
	want := []api.Key{{Kind: api.KInt, Int: 5}, {Kind: api.KStr, Str: "5"}, {Kind: api.KInt}}
	if got := held.Keys(list[:3], key, api.ErrVmKey); !slices.Equal(got, want) || asked != "3 5 0, 3 05 1, 3 0 2, " {
		t.Errorf("%v, %q", got, asked)
	}
	if len(held) != 1 || held[0].Int != 9 || held.Keys(nil, key, api.ErrVmKey) != nil {
		t.Errorf("%v", held)
	}
	for _, c := range []struct {
		list []api.Value
		code api.Errno
	}{{list, api.ErrEvalType}, {append(slices.Clone(list[:3]), list[1]), api.ErrVmKey}, {append(slices.Clone(list[:1]), list[0], list[3]), api.ErrVmKey}, {append(slices.Clone(list[:1]), list[3], list[0]), api.ErrEvalType}} {
		held = Places{number(9)}
		if code := thrown(func() { held.Keys(c.list, key, api.ErrVmKey) }); code != c.code {
			t.Errorf("%v: %d, want %d", c.list, code, c.code)
		}
	}
}

// TestWithin: the element and its number lie on the stack during the call alone.
func TestWithin(t *testing.T) {
	held, calls := Places{number(9)}, 0
	held.Within([]api.Value{number(5), number(6)}, 1, func() {
		if calls++; len(held) != 3 || held[1].Int != 6 || held[2].Int != 1 {
			t.Errorf("%v", held)
		}
	})
	if calls != 1 || len(held) != 1 {
		t.Errorf("%d, %v", calls, held)
	}
}
