package attrs

import (
	"fmt"
	"slices"
	"strings"
	"testing"

	"stencil/api"
	"stencil/dom"
)

// listOf is a list of names with values behind equals signs.
func listOf(s string) []api.Attr {
	var out []api.Attr
	for _, word := range strings.Fields(s) {
		name, value, _ := strings.Cut(word, "=")
		out = append(out, api.Attr{Name: name, Value: value})
	}
	return out
}

// told is each attribute that is gone through, with a minus ahead of those that are gone; of so many.
func told(olds, news []api.Attr, most int) string {
	var out []string
	for attr, stays := range Changes(olds, news) {
		word := attr.Name + "=" + attr.Value
		if !stays {
			word = "-" + word
		}
		if out = append(out, word); len(out) == most {
			break
		}
	}
	return strings.Join(out, " ")
}

func TestChanges(t *testing.T) {
	for _, c := range []struct{ olds, news, want string }{
		{"", "", ""}, {"a=1", "a=1", ""}, {"a=1", "a=2", "a=2"}, {"a=1", "", "-a=1"}, {"", "a=1", "a=1"}, {"a=1", "a=", "a="},
		{"a=1", "b=1", "-a=1 b=1"}, {"b=1", "a=1", "a=1 -b=1"}, {"a=1 b=2 c=3", "b=2", "-a=1 -c=3"}, {"b=2", "a=1 b=2 c=3", "a=1 c=3"},
		{"a=1 b=2 c=3", "a=2 b=2 d=4", "a=2 -c=3 d=4"}, {"a= c=", "b= d=", "-a= b= -c= d="},
	} {
		if got := told(listOf(c.olds), listOf(c.news), -1); got != c.want {
			t.Errorf("%s, %s: %s, want %s", c.olds, c.news, got, c.want)
		}
	}
}

// asked is what told tells, by asking name by name.
func asked(olds, news []api.Attr) string {
	var out []string
	for _, name := range []string{"a", "b", "c", "d"} {
		has := func(attr api.Attr) bool { return attr.Name == name }
		old, now := slices.IndexFunc(olds, has), slices.IndexFunc(news, has)
		switch {
		case now >= 0 && (old < 0 || olds[old] != news[now]):
			out = append(out, name+"="+news[now].Value)
		case now < 0 && old >= 0:
			out = append(out, "-"+name+"="+olds[old].Value)
		}
	}
	return strings.Join(out, " ")
}

// TestEvery: every pair of lists of few names and two values; a walk may end anywhere, and begin anew.
func TestEvery(t *testing.T) {
	var all [][]api.Attr
	for n := range 3 * 3 * 3 * 3 {
		var list []api.Attr
		for _, name := range []string{"a", "b", "c", "d"} {
			if n%3 > 0 {
				list = append(list, api.Attr{Name: name, Value: fmt.Sprint(n % 3)})
			}
			n /= 3
		}
		all = append(all, list)
	}
	for _, olds := range all {
		for _, news := range all {
			want := asked(olds, news)
			if got := told(olds, news, -1); got != want {
				t.Fatalf("%v, %v: %s, want %s", olds, news, got, want)
			}
			for most := range len(strings.Fields(want)) {
				if got := told(olds, news, most+1); got != strings.Join(strings.Fields(want)[:most+1], " ") {
					t.Fatalf("%v, %v: %s of %s", olds, news, got, want)
				}
			}
			walk, count := Changes(olds, news), 0
			for range 2 {
				for range walk {
					count++
				}
			}
			if count != 2*len(strings.Fields(want)) {
				t.Fatalf("%v, %v: a second walk goes elsewhere", olds, news)
			}
		}
	}
}

// TestSet: every pair of lists of few names and two values, of an element in an arena: each change counts once.
func TestSet(t *testing.T) {
	lists := []string{"", "a=1", "a=2", "b=1", "a=1 b=1", "a=2 b=1", "b=2 c=1", "a=1 b=2 c=1 d=2", "c="}
	for _, a := range lists {
		for _, b := range lists {
			olds, news := listOf(a), listOf(b)
			arena, _ := dom.New(2)
			node, code := arena.Build(api.Tree{Tag: "p", Attrs: olds})
			if code != api.OK {
				t.Fatal(code)
			}
			Set(arena, node, olds, news)
			if got := arena.Cells()[node].Attrs; !slices.Equal(got, news) || arena.Counts().Attrs != len(strings.Fields(asked(olds, news))) {
				t.Errorf("%s, %s: %v, %+v", a, b, got, arena.Counts())
			}
		}
	}
}
