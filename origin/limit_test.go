package origin

import (
	"fmt"
	"slices"
	"strconv"
	"strings"
	"testing"

	"stencil/api"
)

// numbers are those from 0 on, as a list of a state.
func numbers(n int) string {
	var out []string
	for i := range n {
		out = append(out, strconv.Itoa(i))
	}
	return "[" + strings.Join(out, ",") + "]"
}

// loops is a template of so many loops around one another and what lies in the innermost.
func loops(n int, inner string) string {
	for i := range n {
		x := "x" + strconv.Itoa(n-i)
		inner = `<for each="` + x + `" :in="l" :key="` + x + `"><p>` + inner + `</p></for>`
	}
	return inner
}

// TestP17_1MaxLoops: loops around one another, as many as may be; the places of Keys behind the first Loops are zero keys, again too where a loop has ended.
func TestP17_1MaxLoops(t *testing.T) {
	for n := 1; n <= api.MaxLoops; n++ {
		cs, state := template(t, loops(n, "z")+"w"), datum(t, `{"l": [1, "a"]}`)
		spots, stood, code := Trace(cs, state)
		// An element and a loop of each depth for each row of keys, 2 to the power of the depth.
		if want := 1<<(n+1) - 2 + 1<<n + 1; code != api.OK || len(spots) != want || len(stood) != 1<<n-1 {
			t.Fatalf("%d loops: %d spots, %d loops, %d, want %d, %d", n, len(spots), len(stood), code, want, 1<<n-1)
		}
		for _, spot := range spots {
			expectZeroBehind(t, spot.Origin)
			want := (spot.Origin.Node + 1) / 2
			if spot.Text == "z" {
				want = n
			}
			if spot.Text == "w" {
				want = 0
			}
			if spot.Origin.Loops != want {
				t.Fatalf("%d loops: %+v", n, spot)
			}
		}
		for _, loop := range stood {
			expectZeroBehind(t, loop.Origin)
			if loop.Origin.Loops != loop.Origin.Node/2 || toldLoops([]api.Loop{{Keys: loop.Keys}}) != `0[1 "a"]` {
				t.Fatalf("%d loops: %+v", n, loop)
			}
		}
		expectAsked(t, cs, state)
	}
	one, all := datum(t, `{"l": [7]}`), template(t, loops(api.MaxLoops, "z")+"w")
	spots, stood, _ := Trace(all, one)
	if got := told(spots[6:]); got != `13/7/7/7/7/7/7/7 in 5 <p>; 15/7/7/7/7/7/7/7/7 in 6 <p>; 16/7/7/7/7/7/7/7/7 in 7 "z"; 17 "w"` || toldLoops(stood[7:]) != `14/7/7/7/7/7/7/7[7]` {
		t.Errorf("%s, %s", got, toldLoops(stood))
	}
	// One more is no core.
	kid := api.Core{Kind: api.CElem, Tag: "p", Kids: all}
	more := []api.Core{{Kind: api.CFor, Exprs: []api.Expr{{Op: api.EVar}, {Op: api.EVar}}, Kids: []api.Core{kid}}}
	if spots, stood, code := Trace(more, one); len(spots) != 0 || len(stood) != 0 || code != api.ErrCoreDeep {
		t.Errorf("%d", code)
	}
}

func expectZeroBehind(t *testing.T, o api.Origin) {
	t.Helper()
	for i, k := range o.Keys {
		if (i < o.Loops) == (k == api.Key{}) {
			t.Fatalf("%+v", o)
		}
	}
}

// TestP17_1MaxNodes: as many nodes as may be, and one more.
func TestP17_1MaxNodes(t *testing.T) {
	const most = api.MaxNodes
	each := template(t, `<for each="x" :in="l" :key="x"><b/></for>`)
	held := template(t, `<p>y<for each="x" :in="l" :key="x"><b/></for></p>`)
	for n := most - 3; n <= most+1; n++ {
		state, code := datum(t, `{"l": `+numbers(n)+`}`), api.OK
		if n > most {
			code = api.ErrRenderLarge
		}
		if got := expectAsked(t, each, state); got != code {
			t.Errorf("%d: %d, want %d", n, got, code)
		}
		if n+2 > most {
			code = api.ErrRenderLarge
		}
		if got := expectAsked(t, held, state); got != code {
			t.Errorf("%d in an element: %d, want %d", n, got, code)
		}
	}
	spots, stood, code := Trace(each, datum(t, `{"l": `+numbers(most)+`}`))
	if code != api.OK || len(spots) != most || len(stood) != 1 || len(stood[0].Keys) != most || toldOrigin(spots[most-1].Origin) != "1/4095" {
		t.Errorf("%d spots, %d loops, %d", len(spots), len(stood), code)
	}
	// As many core nodes as may be.
	wide := slices.Repeat([]api.Core{{Kind: api.CElem, Tag: "p"}}, api.MaxCore)
	expectAsked(t, wide, api.Value{Kind: api.KNull})
	spots, _, code = Trace(wide, api.Value{Kind: api.KNull})
	if code != api.OK || len(spots) != api.MaxCore || spots[api.MaxCore-1].Origin.Node != api.MaxCore-1 {
		t.Errorf("%d spots, %d", len(spots), code)
	}
}

// TestP17_1Deep: elements in one another as deep as may be, and nodes that make none as deep as there are pieces.
func TestP17_1Deep(t *testing.T) {
	tall := api.Core{Kind: api.CText, Parts: []api.Part{{Plain: "x"}}}
	for range 2*api.MaxNest - 1 {
		tall = api.Core{Kind: api.CElem, Tag: "p", Kids: []api.Core{tall}}
	}
	spots, _, code := Trace([]api.Core{tall}, api.Value{Kind: api.KNull})
	if code != api.OK || len(spots) != 2*api.MaxNest {
		t.Fatalf("%d spots, %d", len(spots), code)
	}
	for i, spot := range spots {
		if spot.Origin.Node != i || spot.Parent != i-1 {
			t.Errorf("spot %d: %+v", i, spot)
		}
	}
	bare := api.Core{Kind: api.CElem, Tag: "p"}
	for range api.MaxCore - 1 {
		bare = api.Core{Kind: api.CWith, Kids: []api.Core{bare}}
	}
	spots, _, code = Trace([]api.Core{bare}, api.Value{Kind: api.KNull})
	if code != api.OK || told(spots) != fmt.Sprintf("%d <p>", api.MaxCore-1) {
		t.Errorf("%s, %d", told(spots), code)
	}
	// Ifs that stand in one another's else.
	test := []api.Expr{{Op: api.EFalse}}
	chain := api.Core{Kind: api.CElem, Tag: "q"}
	const ifs = (api.MaxCore - 1) / 4
	for range ifs {
		chain = api.Core{Kind: api.CIf, Exprs: test, Kids: []api.Core{{Kind: api.CElem, Tag: "p"}}, Else: []api.Core{chain}}
	}
	spots, _, code = Trace([]api.Core{chain}, api.Value{Kind: api.KNull})
	if code != api.OK || told(spots) != fmt.Sprintf("%d <q>", 2*ifs) {
		t.Errorf("%s, %d", told(spots), code)
	}
}
