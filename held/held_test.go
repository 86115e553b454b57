package held

import (
	"math"
	"testing"

	"stencil/api"
)

// in are spots with these parents: an element each, but for the last, which is a text.
func in(parents ...int) []api.Spot {
	var out []api.Spot
	for i, parent := range parents {
		out = append(out, api.Spot{Parent: parent, Tag: "p"})
		if i == len(parents)-1 {
			out[i].Tag = ""
		}
	}
	return out
}

func TestAll(t *testing.T) {
	for i, spots := range [][]api.Spot{nil, {}, in(-1), in(-1, -1), in(-1, 0), in(-1, 0, 1), in(-1, 0, 0), in(-1, -1, 0), in(-1, -1, 1)} {
		if !All(spots) {
			t.Errorf("row %d is refused", i)
		}
	}
	text := in(-1, 0, -1)
	text[0].Tag = ""
	for i, spots := range [][]api.Spot{
		in(0), in(0, -1), in(1), in(-2), in(math.MinInt), in(math.MaxInt), in(-1, 1), in(-1, 2), in(-1, -2), in(-1, math.MinInt), in(-1, math.MaxInt), in(1, -1), in(-1, 1, -1), in(-1, 2, -1), text, append(in(-1), in(0)...),
	} {
		if All(spots) {
			t.Errorf("row %d is taken", i)
		}
	}
}
