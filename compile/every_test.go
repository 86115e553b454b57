package compile

import (
	"fmt"
	"reflect"
	"slices"
	"strings"
	"testing"

	"stencil/api"
	"stencil/core"
)

// forests yields every list of so many nodes in all, each with one of the labels; kids stand in all that is no text, and in an if also in its else.
func forests(count int, labels []api.Core, yield func([]api.Core)) {
	if count == 0 {
		yield(nil)
		return
	}
	for _, label := range labels {
		for inside := range count {
			if label.Kind == api.CText && inside > 0 {
				break
			}
			hold(label, inside, labels, func(first api.Core) {
				forests(count-1-inside, labels, func(rest []api.Core) {
					yield(append(list(first), rest...))
				})
			})
		}
	}
}

// hold yields a node with every list of so many nodes in it; what lies in a loop lies in its element.
func hold(c api.Core, count int, labels []api.Core, yield func(api.Core)) {
	if c.Kind != api.CIf {
		forests(count, labels, func(kids []api.Core) {
			if c.Kind == api.CFor {
				kids = list(fields(elem("li", kids...), c.Kids[0].Fields...))
			}
			c.Kids = kids
			yield(c)
		})
		return
	}
	for others := range count + 1 {
		forests(count-others, labels, func(kids []api.Core) {
			forests(others, labels, func(els []api.Core) {
				c.Kids, c.Else = kids, els
				yield(c)
			})
		})
	}
}

// sketches are labels of which each meets another error, in a state that does not fit it.
func sketches() []api.Core {
	return list(
		text("x"), parts(plain("y"), bound("p0.v")), show("p1"), fields(elem("p"), attr("c", "1")), fields(elem("q"), boundAttr("a", "1 / p0.f")), when("p0.b"),
		loop("p0.l", "p1", elem("li")), with(nil), with([]string{"p0.v", "p0.w + 1"}),
	)
}

// sketched are states that fit the sketches, and such as do not, in one thing or in several.
func sketched(t *testing.T) []api.Value {
	t.Helper()
	var out []api.Value
	for _, s := range []string{
		`"v": "s", "b": true, "l": [1, 2], "f": 1, "w": 0`, `"v": 7, "b": false, "l": [2, "1", 1], "f": 2, "w": 1`, `"v": [], "b": true, "l": [2], "f": 1, "w": 0`, `"v": "s", "b": true, "l": [1, 1], "f": 0, "w": 0`,
		`"v": "u", "b": true, "l": [], "f": 0, "w": 9223372036854775807`, `"v": "u", "l": [3], "f": 1, "w": 9223372036854775807`, `"v": "u", "b": 1, "l": [1, 3], "f": 1, "w": 1`, `"v": null, "b": true, "l": [3, 2, 1], "f": 1, "w": 1`, `"v": null, "b": false, "l": [3, 4], "f": 1, "w": 1`,
	} {
		out = append(out, datum(t, "{"+s+"}"))
	}
	return out
}

// session makes calls of each kind, so that each state is mounted, and taken behind another one, by the machines of cs; if cs may not be, Compile says why.
func session(t *testing.T, cs []api.Core, room int, states []api.Value, met map[api.Errno]int) {
	t.Helper()
	if fault := core.Check(cs); fault != api.OK {
		for _, o := range settings() {
			if p, got := Compile(cs, o); got != fault || !reflect.DeepEqual(p, api.Program{}) {
				t.Fatalf("%+v: %d, want %d: %s", o, got, fault, cut(cs))
			}
		}
		met[fault]++
		return
	}
	w := newTwins(t, cs, room)
	for i, v := range states {
		met[w.take(t, v)]++
		if i == len(states)/2 && w.mounted {
			met[w.unmount(t)]++
		}
	}
}

func expectCodes(t *testing.T, met map[api.Errno]int, least int, codes ...api.Errno) {
	t.Helper()
	for _, code := range codes {
		if met[code] < least {
			t.Errorf("few of %d: %v", code, met)
		}
	}
	if len(met) != len(codes) {
		t.Errorf("%v", met)
	}
}

// TestP24_1EverySmall: of the small cores every one, in all settings.
func TestP24_1EverySmall(t *testing.T) {
	t.Parallel()
	states, met, at := sketched(t), map[api.Errno]int{}, 0
	for count := range 4 {
		forests(count, sketches(), func(cs []api.Core) {
			// The states come in another row for each, in arenas of several sizes.
			turned := slices.Concat(states[at%len(states):], states[:at%len(states)])
			session(t, cs, []int{30, 3, 6}[at%3], turned, met)
			at++
		})
	}
	expectCodes(t, met, 100, api.OK, api.ErrCoreName, api.ErrEvalType, api.ErrEvalPath, api.ErrEvalZero, api.ErrEvalOver, api.ErrVmKey, api.ErrVmFull)
}

// TestP24_1EveryFour: of four nodes fewer, of each kind one.
func TestP24_1EveryFour(t *testing.T) {
	t.Parallel()
	states, met, at := sketched(t)[:6], map[api.Errno]int{}, 0
	all := sketches()
	forests(4, list(all[2], all[3], all[5], all[6], all[8]), func(cs []api.Core) {
		if at++; at%2 == 0 {
			session(t, cs, 40, states, met)
		}
	})
	expectCodes(t, met, 100, api.OK, api.ErrCoreName, api.ErrEvalType, api.ErrEvalPath, api.ErrEvalOver, api.ErrVmKey)
}

// lists are all lists of up to so many of those.
func lists[T any](most int, those []T) [][]T {
	out := [][]T{nil}
	for from := 0; most > 0; most-- {
		end := len(out)
		for _, shorter := range out[from:end] {
			for _, one := range those {
				out = append(out, append(slices.Clone(shorter), one))
			}
		}
		from = end
	}
	return out
}

// wordy is a state with texts that are long.
func wordy(t *testing.T) api.Value {
	t.Helper()
	return datum(t, `{"v": 7, "s": "`+strings.Repeat("é", api.MaxStr/2)+`", "l": [], "n": null, "t": "u", "b": true}`)
}

// TestP24_1EveryText: every short row of parts: their texts in their row, and the first error of them, as long as may be and longer.
func TestP24_1EveryText(t *testing.T) {
	t.Parallel()
	state, met := wordy(t), map[api.Errno]int{}
	long := strings.Repeat("x", api.MaxStr-1)
	those := []api.Part{
		plain("a"), plain(long), plain(long + "y"), bound("p0.v"), bound("p0.t"), bound("p0.s"), bound("p0.n"), bound("p0.l"), bound("p0.z"), bound("1 / 0"),
		bound("p0.b ? p0.t : p0.z"), bound("p0.b && !p0.b"), bound("!p0.b || p0.v"), bound("p0.v == 7 && (p0.b ? 'c' ~ p0.v : p0.z) == 'c7'"),
	}
	for _, ps := range lists(3, those) {
		cs := list(elem("p", parts(ps...)))
		if core.Check(cs) == api.OK {
			met[newTwins(t, cs, 5).mount(t, state)]++
		}
	}
	expectCodes(t, met, 50, api.OK, api.ErrEvalType, api.ErrEvalPath, api.ErrEvalZero, api.ErrEvalLong)
}

// TestP24_1EveryLong: of several errors in one text the first, wherever it grows too long.
func TestP24_1EveryLong(t *testing.T) {
	t.Parallel()
	state, met := wordy(t), map[api.Errno]int{}
	those := []api.Part{plain("a"), bound("p0.s"), bound("p0.t"), bound("p0.l"), bound("p0.z"), bound("p0.b ? 'c' : 'd'")}
	for _, ps := range lists(4, those) {
		cs := list(parts(ps...))
		if core.Check(cs) == api.OK {
			met[newTwins(t, cs, 5).mount(t, state)]++
		}
	}
	expectCodes(t, met, 50, api.OK, api.ErrEvalType, api.ErrEvalPath, api.ErrEvalLong)
}

// TestP24_1EveryField: every short row of attributes, on an element, in a loop and in a with, which states set, drop and refuse.
func TestP24_1EveryField(t *testing.T) {
	t.Parallel()
	states, met := sketched(t), map[api.Errno]int{}
	names := []string{"a", "a-b", "b"}
	for _, contents := range lists(3, []string{"", "'x'", "p0.v", "p0.b", "1 / p0.f", "p0.b ? p0.v : null"}) {
		var fs []api.Field
		for i, content := range contents {
			if content == "" {
				fs = append(fs, attr(names[i], content))
			} else {
				fs = append(fs, boundAttr(names[i], content))
			}
		}
		session(t, list(fields(elem("p", text("x")), fs...)), 9, states, met)
		session(t, list(loop("p0.l", "p1", fields(elem("p"), fs...)), with([]string{"p0.v"}, fields(elem("p"), append(fs, boundAttr("c", "p1"))...))), 9, states, met)
	}
	expectCodes(t, met, 50, api.OK, api.ErrEvalType, api.ErrEvalPath, api.ErrEvalZero, api.ErrVmKey)
}

// TestP24_1EveryWith: every short row of expressions, with kids that show each of them, and are told apart from those behind.
func TestP24_1EveryWith(t *testing.T) {
	t.Parallel()
	states, met := sketched(t), map[api.Errno]int{}
	for _, exprs := range lists(3, []string{"p0.v", "p0.w + 1", "p0.b", "p0", "p0.l[0]"}) {
		var kids []api.Core
		for i := range exprs {
			kids = append(kids, when(fmt.Sprintf("p%d == p0.v", i+1), show(fmt.Sprintf("p%d", i+1))))
		}
		session(t, list(with(exprs, kids...), loop("p0.l", "p1", fields(elem("b"), boundAttr("a", "p2"))), show("p0.w")), 12, states, met)
		session(t, list(with(exprs, with([]string{"p0.w", "p0"}, append(kids, loop(fmt.Sprintf("p%d.l", len(exprs)+2), fmt.Sprintf("p%d", len(exprs)+3), elem("b", kids...)))...))), 30, states, met)
	}
	expectCodes(t, met, 50, api.OK, api.ErrEvalType, api.ErrEvalPath, api.ErrEvalIndex, api.ErrEvalOver, api.ErrVmKey)
}

// arrangements are all lists of different numbers from 0 to less than most.
func arrangements(most int) []string {
	out := []string{""}
	for i := 0; i < len(out); i++ {
		for n := range most {
			if word := fmt.Sprint(n); !strings.Contains(out[i], word) {
				out = append(out, strings.TrimPrefix(out[i]+","+word, ","))
			}
		}
	}
	return out
}

// TestP24_1EveryList: from every short list to every other one, of static elements and of others.
func TestP24_1EveryList(t *testing.T) {
	t.Parallel()
	all := arrangements(3)
	for _, cs := range [][]api.Core{
		list(loop("p0.l", "p1", elem("b", text("x"))), text("z")),
		list(elem("p", text("y"), loop("p0.l", "p1", fields(elem("b", with([]string{"p1"}, show("p3"), when("p2 == 1", elem("i")))), boundAttr("a", "p2"))))),
		list(loop("p0.l", "p1", elem("b", otherwise(when("p2 == p1", loop("p0.l", "p3", elem("i"))), text("n"))))),
	} {
		w := newTwins(t, cs, 40)
		w.mount(t, datum(t, `{"l": []}`))
		for _, a := range all {
			for _, b := range all {
				w.update(t, datum(t, `{"l": [`+a+`]}`))
				w.update(t, datum(t, `{"l": [`+b+`]}`))
			}
		}
		if n := w.model.Counts(); n.Moved < 50 || n.Placed < 100 || n.Removed < 100 {
			t.Errorf("%+v", n)
		}
	}
}
