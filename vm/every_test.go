package vm

import (
	"slices"
	"strconv"
	"strings"
	"testing"

	"stencil/api"
)

// arrangements are all lists of different numbers from 0 to less than most.
func arrangements(most int) []string {
	lists := []string{""}
	for i := 0; i < len(lists); i++ {
		for n := range most {
			word := strconv.Itoa(n)
			if !strings.Contains(lists[i], word) {
				lists = append(lists, strings.TrimPrefix(lists[i]+","+word, ","))
			}
		}
	}
	return lists
}

// TestP23EveryList: from every short list to every other one, of a loop alone and between other nodes.
func TestP23EveryList(t *testing.T) {
	t.Parallel()
	all := arrangements(4)
	if len(all) != 65 {
		t.Fatal(len(all))
	}
	for _, p := range []api.Program{
		programOf(each("p0.l", "p1", static(api.Tree{Tag: "b"}))),
		programOf(elem("p", text("y"), each("p0.l", "p1", elem("b", bound("a", "p2"), show("p2"))), elem("i"))),
		programOf(each("p0.l", "p1", elem("b", each("p0.l", "p3", elem("i"))))),
	} {
		w := newTwin(t, p, 24)
		var states []api.Value
		for _, list := range all {
			states = append(states, datum(t, `{"l": [`+list+`]}`))
		}
		w.mount(t, states[0])
		for i, a := range states {
			for _, b := range states[:i] {
				w.update(t, a)
				w.update(t, b)
			}
		}
		if n := w.x.Counts(); n.Moved < 1000 || n.Placed < 1000 || n.Removed < 1000 {
			t.Errorf("%+v", n)
		}
	}
}

// TestP23EveryRoom: every short list in every small arena: whether it fits is asked of the new one alone.
func TestP23EveryRoom(t *testing.T) {
	t.Parallel()
	all, met := arrangements(3), map[api.Errno]int{}
	p := programOf(text("a"), each("p0.l", "p1", elem("b", show("p1"))), elem("i"))
	for room := 1; room < 10; room++ {
		for _, first := range all {
			for _, second := range all {
				w := newTwin(t, p, room)
				met[w.mount(t, datum(t, `{"l": [`+first+`]}`))]++
				met[w.update(t, datum(t, `{"l": [`+second+`]}`))]++
				met[w.unmount(t)]++
			}
		}
	}
	if met[api.OK] < 1000 || met[api.ErrVmFull] < 1000 || met[api.ErrVmBare] < 1000 || len(met) != 3 {
		t.Errorf("%v", met)
	}
}

// rows are all rows of so many parts, one in another one or beside it; shorter are those of fewer.
func rows(count int, shorter [][][]part) [][]part {
	var out [][]part
	for inside := range count {
		for _, one := range single(inside, shorter) {
			for _, behind := range shorter[count-1-inside] {
				out = append(out, append([]part{one}, behind...))
			}
		}
	}
	return out
}

// single are all parts with so many parts inside.
func single(inside int, shorter [][][]part) []part {
	var out []part
	if inside == 0 {
		out = append(out, text("x"), show("p0.v"), static(api.Tree{Tag: "s", Kids: []api.Tree{{Text: "y"}}}))
	}
	for _, kids := range shorter[inside] {
		kids = slices.Concat(kids, parts(quiet()))
		out = append(out, elem("p", append(parts(bound("a", "p0.b")), kids...)...), either("p0.b", kids, nil), either("p0.b", nil, kids), each("p0.l", "$2", elem("q", kids...)), with([]string{"p0.v"}, slices.Concat(kids, parts(show("$1")))...), func(m *making) {
			for _, one := range slices.Concat(parts(let("p0.w"), show("$1")), kids, parts(drop(1))) {
				one(m)
			}
		})
	}
	for others := range inside {
		for _, yes := range shorter[inside-1-others] {
			for _, no := range shorter[others] {
				out = append(out, either("p0.b", slices.Concat(yes, parts(quiet())), slices.Concat(no, parts(quiet()))))
			}
		}
	}
	return out
}

// TestP23EverySmall: of the small programs every one, so each kind alone, beside each other and in each other, with each way to list them, and states that fit, each behind each, and such as do not.
func TestP23EverySmall(t *testing.T) {
	var states []api.Value
	for _, s := range []string{`{"b": true, "l": [], "v": 0, "w": 1}`, `{"b": false, "l": [4], "v": "z", "w": 1}`, `{"b": true, "l": ["a", 4, "4"], "v": 0, "w": 1}`, `{"b": false, "l": [4, "b", "a"], "v": null, "w": 1}`, `{"b": true, "l": [1, 1], "v": 1, "w": 1}`, `{"w": 1}`} {
		states = append(states, datum(t, s))
	}
	shorter := [][][]part{{nil}}
	for count := 1; count <= 3; count++ {
		shorter = append(shorter, rows(count, shorter))
	}
	all := slices.Concat(shorter...)
	for name, lists := range map[string]func(op api.Op) bool{
		"all": nil, "flagged": isFlagged, "none": never,
		"no text": func(op api.Op) bool { return op.Kind != api.OpTextX }, "no attribute": func(op api.Op) bool { return op.Kind != api.OpAttrX }, "no if": func(op api.Op) bool { return op.Kind != api.OpIf }, "no for": func(op api.Op) bool { return op.Kind != api.OpFor }, "no with": func(op api.Op) bool { return op.Kind != api.OpWith },
	} {
		t.Run(name, func(t *testing.T) {
			t.Parallel()
			met := map[api.Errno]int{}
			for i, row := range all {
				// Of the longest ones each fourth, where not all is listed.
				if lists != nil && len(shorter[0])+len(shorter[1])+len(shorter[2]) < i && i%4 > 0 {
					continue
				}
				p := programOf(row...)
				if lists != nil {
					p = listing(p, lists)
				}
				w := newTwin(t, p, 18)
				met[w.mount(t, states[0])]++
				for i := range states {
					for j := range i {
						met[w.update(t, states[i])]++
						met[w.update(t, states[j])]++
					}
				}
				met[w.unmount(t)]++
			}
			if met[api.OK] < 8000 {
				t.Errorf("%v", met)
			}
		})
	}
}
