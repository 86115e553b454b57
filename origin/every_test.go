package origin

import (
	"strings"
	"testing"

	"stencil/api"
)

// bodies are all templates of so many pieces, a piece being a text, an element, an if, an else, a for or a use; shorter are those of fewer.
func bodies(count int, shorter [][]string) []string {
	var out []string
	for inside := range count {
		rest := shorter[count-1-inside]
		for _, one := range pieces(inside, shorter) {
			for _, behind := range rest {
				// Two texts side by side would be one.
				if !strings.HasSuffix(one, "x") || !strings.HasPrefix(behind, "x") {
					out = append(out, one+behind)
				}
			}
		}
	}
	return out
}

// pieces are all nodes with so many pieces inside.
func pieces(inside int, shorter [][]string) []string {
	var out []string
	if inside == 0 {
		out = append(out, "x")
	}
	for _, kids := range shorter[inside] {
		out = append(out, `<p>`+kids+`</p>`, `<if :test="b">`+kids+`</if>`, `<for each="e" :in="l" :key="e"><q>`+kids+`</q></for>`, `<d v="1">`+kids+`</d>`)
	}
	for others := range inside {
		for _, kids := range shorter[inside-1-others] {
			for _, els := range shorter[others] {
				out = append(out, `<if :test="b">`+kids+`</if><else>`+els+`</else>`)
			}
		}
	}
	return out
}

// TestP17EverySmall: of the small templates every one, so each Kind alone, beside each other and in each other, with states that fit.
func TestP17EverySmall(t *testing.T) {
	t.Parallel()
	var states []api.Value
	for _, s := range []string{`{"b": true, "l": []}`, `{"b": false, "l": [4]}`, `{"b": true, "l": ["a", 4, "4"]}`, `{"b": false, "l": [4, "b"]}`, `{"b": true, "l": [1, 1]}`} {
		states = append(states, datum(t, s))
	}
	all, met := [][]string{{""}}, map[api.Errno]int{}
	for count := 1; count <= 4; count++ {
		all = append(all, bodies(count, all))
		for _, s := range all[count] {
			cs, tags := template(t, `<def name="d" props="v"><i/><slot/></def>`+s), map[api.Origin]string{}
			for _, state := range states {
				met[expectAsked(t, cs, state)]++
				expectOneTag(t, tags, cs, state)
			}
		}
	}
	if met[api.OK] < 20000 || met[api.ErrRenderKey] < 2000 || len(met) != 2 {
		t.Errorf("%v", met)
	}
}

// TestP17EveryKey: every short list of elements, with a key that is the element, its number, and both.
func TestP17EveryKey(t *testing.T) {
	t.Parallel()
	elements, met := []string{`0`, `1`, `"0"`, `""`, `null`}, map[api.Errno]int{}
	lists, from := []string{""}, 0
	for range 4 {
		end := len(lists)
		for _, ahead := range lists[from:end] {
			for _, one := range elements {
				lists = append(lists, strings.TrimPrefix(ahead+", "+one, ", "))
			}
		}
		from = end
	}
	var cores [][]api.Core
	for _, key := range []string{`x`, `i`, `x ~ i`, `x ~ ''`, `x == i ? x : i`} {
		cores = append(cores, template(t, `<for each="x" at="i" :in="l" :key="`+key+`"><p><for each="y" at="j" :in="l" :key="j - i"><q>{{ y }}</q></for></p></for>`))
	}
	for _, list := range lists {
		for _, cs := range cores {
			met[expectAsked(t, cs, datum(t, `{"l": [`+list+`]}`))]++
		}
	}
	if met[api.OK] < 1000 || met[api.ErrEvalType] < 300 || met[api.ErrRenderKey] < 500 || len(met) != 3 {
		t.Errorf("%v", met)
	}
}
