package model

import (
	"strconv"
	"strings"
	"testing"

	"stencil/api"
)

// arrangements are all lists of different numbers from 0 to less than most.
func arrangements(most int) []string {
	lists := []string{""}
	for i := 0; i < len(lists); i++ {
		for n := range most {
			word := strconv.Itoa(n)
			if !strings.Contains(lists[i], word) {
				lists = append(lists, strings.TrimPrefix(lists[i]+","+word, ","))
			}
		}
	}
	return lists
}

// TestP19EveryList: from every short list to every other one, of a loop alone and between other nodes.
func TestP19EveryList(t *testing.T) {
	t.Parallel()
	all := arrangements(4)
	if len(all) != 65 {
		t.Fatal(len(all))
	}
	for _, s := range []string{`<for each="x" :in="l" :key="x"><b/></for>`, `<p>y<for each="x" at="i" :in="l" :key="x"><b :a="i">{{ i }}</b></for><i/></p>`} {
		w := newTwin(t, template(t, s), 14)
		var states []api.Value
		for _, list := range all {
			states = append(states, datum(t, `{"l": [`+list+`]}`))
		}
		w.mount(t, states[0])
		for i, a := range states {
			for _, b := range states[:i] {
				w.update(t, a)
				w.update(t, b)
			}
		}
		if n := w.x.Counts(); n.Moved < 1000 || n.Placed < 1000 || n.Removed < 1000 {
			t.Errorf("%+v", n)
		}
	}
}

// TestP19EveryRoom: every short list in every small arena: whether it fits is asked of the new one alone.
func TestP19EveryRoom(t *testing.T) {
	t.Parallel()
	all, met := arrangements(3), map[api.Errno]int{}
	for room := 1; room < 10; room++ {
		for _, first := range all {
			for _, second := range all {
				w := newTwin(t, template(t, plain), room)
				met[w.mount(t, datum(t, `{"l": [`+first+`]}`))]++
				met[w.update(t, datum(t, `{"l": [`+second+`]}`))]++
				met[w.unmount(t)]++
			}
		}
	}
	if met[api.OK] < 1000 || met[api.ErrModelFull] < 1000 || met[api.ErrModelBare] < 1000 || len(met) != 3 {
		t.Errorf("%v", met)
	}
}

// bodies are all templates of so many pieces, a piece being a text, an element, an if, an else, a for or a use; shorter are those of fewer.
func bodies(count int, shorter [][]string) []string {
	var out []string
	for inside := range count {
		rest := shorter[count-1-inside]
		for _, one := range pieces(inside, shorter) {
			for _, behind := range rest {
				// Two texts side by side would be one.
				if !strings.HasSuffix(one, "x") || !strings.HasPrefix(behind, "x") {
					out = append(out, one+behind)
				}
			}
		}
	}
	return out
}

// pieces are all nodes with so many pieces inside.
func pieces(inside int, shorter [][]string) []string {
	var out []string
	if inside == 0 {
		out = append(out, "x", "{{ v }}")
	}
	for _, kids := range shorter[inside] {
		out = append(out, `<p :a="b">`+kids+`</p>`, `<if :test="b">`+kids+`</if>`, `<for each="e" :in="l" :key="e"><q>`+kids+`</q></for>`, `<d v="1">`+kids+`</d>`)
	}
	for others := range inside {
		for _, kids := range shorter[inside-1-others] {
			for _, els := range shorter[others] {
				out = append(out, `<if :test="b">`+kids+`</if><else>`+els+`</else>`)
			}
		}
	}
	return out
}

// TestP19EverySmall: of the small templates every one, so each Kind alone, beside each other and in each other, with states that fit, each behind each, and one that does not.
func TestP19EverySmall(t *testing.T) {
	t.Parallel()
	var states []api.Value
	for _, s := range []string{`{"b": true, "l": [], "v": 0}`, `{"b": false, "l": [4], "v": "z"}`, `{"b": true, "l": ["a", 4, "4"], "v": 0}`, `{"b": false, "l": [4, "b", "a"], "v": null}`, `{"b": true, "l": [1, 1], "v": 1}`} {
		states = append(states, datum(t, s))
	}
	all, met := [][]string{{""}}, map[api.Errno]int{}
	for count := 1; count <= 3; count++ {
		all = append(all, bodies(count, all))
		for _, s := range all[count] {
			w := newTwin(t, template(t, `<def name="d" props="v"><i/><slot/></def>`+s), 18)
			met[w.mount(t, states[0])]++
			for i := range states {
				for j := range i {
					met[w.update(t, states[i])]++
					met[w.update(t, states[j])]++
				}
			}
			met[w.unmount(t)]++
		}
	}
	if met[api.OK] < 8000 || met[api.ErrRenderKey] < 1000 || met[api.ErrModelFull] < 10 || len(met) != 3 {
		t.Errorf("%v", met)
	}
}
