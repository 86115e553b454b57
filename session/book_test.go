package session

import (
	"fmt"
	"slices"
	"strconv"
	"strings"
	"testing"

	"stencil/api"
	"stencil/check"
	"stencil/syntax"
)

// settings are all eight.
func settings() []api.Options {
	var out []api.Options
	for n := range 8 {
		out = append(out, api.Options{Hoist: n&1 > 0, Flags: n&2 > 0, Inline: n&4 > 0})
	}
	return out
}

// cores is the core of a template, or the first error with its place, as the layers ahead say them.
func cores(s string) ([]api.Core, int, api.Errno) {
	nodes, at, code := syntax.Parse(s)
	if code != api.OK {
		return nil, at, code
	}
	return check.Check(nodes)
}

// started is a session of a template that may be.
func started(t *testing.T, s string, room int, o api.Options) *Session {
	t.Helper()
	x, at, code := New(s, room, o)
	if x == nil || at != 0 || code != api.OK {
		t.Fatalf("%+v: %d at %d: %s", o, code, at, cut(s))
	}
	return x
}

// all are the sessions of a template in all settings.
func all(t *testing.T, s string, room int) []*Session {
	t.Helper()
	var out []*Session
	for _, o := range settings() {
		out = append(out, started(t, s, room, o))
	}
	return out
}

// picture is all that a session tells.
type picture struct {
	cells  []api.Cell
	free   []int
	counts api.Counts
	forest []api.Tree
	html   string
}

func pictureOf(x *Session) picture {
	return picture{cells: x.Cells(), free: x.Free(), counts: x.Counts(), forest: x.Forest(), html: x.Html()}
}

func (p picture) same(other picture) bool {
	return p.html == other.html && p.counts == other.counts && slices.Equal(p.free, other.free) && slices.EqualFunc(p.cells, other.cells, sameCells) && slices.EqualFunc(p.forest, other.forest, sameTrees)
}

func sameCells(a, b api.Cell) bool {
	attrs := slices.Equal(a.Attrs, b.Attrs)
	return attrs && a.Live == b.Live && a.Tag == b.Tag && a.Text == b.Text && a.Parent == b.Parent && a.First == b.First && a.Last == b.Last && a.Prev == b.Prev && a.Next == b.Next
}

func sameTrees(a, b api.Tree) bool {
	return a.Tag == b.Tag && a.Text == b.Text && slices.Equal(a.Attrs, b.Attrs) && slices.EqualFunc(a.Kids, b.Kids, sameTrees)
}

// nested is s in so many elements.
func nested(n int, tag, s string) string {
	return strings.Repeat("<"+tag+">", n) + s + strings.Repeat("</"+tag+">", n)
}

// numbers is a list of so many, from one on, each so much more than the one ahead.
func numbers(from, count, more int) string {
	var out []string
	for i := range count {
		out = append(out, strconv.Itoa(from+i*more))
	}
	return "[" + strings.Join(out, ",") + "]"
}

// arrangements are all lists of different numbers from 0 to less than most.
func arrangements(most int) []string {
	out := []string{""}
	for i := 0; i < len(out); i++ {
		for n := range most {
			if word := strconv.Itoa(n); !strings.Contains(out[i], word) {
				out = append(out, strings.TrimPrefix(out[i]+","+word, ","))
			}
		}
	}
	return out
}

// marked is a template without its §, and the place where that stands.
func marked(s string) (string, int) {
	return strings.Replace(s, "§", "", 1), max(strings.Index(s, "§"), 0)
}

// cut is what may be long, for a message.
func cut(x any) string {
	s := fmt.Sprintf("%+v", x)
	if len(s) > 3000 {
		return s[:2500] + " .. " + s[len(s)-400:]
	}
	return s
}
