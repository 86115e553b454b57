package core

import (
	"slices"
	"strings"
	"testing"

	"stencil/api"
)

// chain is an expression of so many nodes, one in the other.
func chain(n int) api.Expr {
	e := v(0)
	for range n - 1 {
		e = op(api.ENot, e)
	}
	return e
}

// bush is an expression of so many nodes, with as many sides as it can have.
func bush(n int) api.Expr {
	switch n {
	case 1:
		return v(0)
	case 2:
		return part(v(0), "a")
	case 3:
		return op(api.EAdd, v(0), num(1))
	}
	third := (n - 1) / 3
	return op(api.EIf, bush(third), bush(third), bush(n-1-2*third))
}

func TestP15_1LongExprs(t *testing.T) {
	for _, make := range []func(int) api.Expr{chain, bush} {
		for _, n := range []int{api.MaxExpr, api.MaxExpr + 1, 2*api.MaxExpr - 1, 2 * api.MaxExpr} {
			expectHomes(t, api.OK, make(n))
		}
		for _, n := range []int{2*api.MaxExpr + 1, 2*api.MaxExpr + 2, 3 * api.MaxExpr} {
			expectHomes(t, api.ErrCoreExpr, make(n))
		}
		// Each expression is counted by itself.
		expect(t, api.OK, with([]api.Expr{make(2 * api.MaxExpr), make(2 * api.MaxExpr), make(2 * api.MaxExpr)}))
		expect(t, api.ErrCoreExpr, with([]api.Expr{make(2 * api.MaxExpr), make(2*api.MaxExpr + 1), make(2 * api.MaxExpr)}))
		expect(t, api.ErrCoreExpr, with([]api.Expr{v(9), make(2*api.MaxExpr + 1)}))
	}
}

// TestP15_1Large: as many pieces as may be, and one more, of each sort of them.
func TestP15_1Large(t *testing.T) {
	t.Parallel()
	fill := func(n int) []api.Core { return slices.Repeat(list(elem("p")), n) }
	for _, row := range []struct {
		pieces int
		c      api.Core
	}{
		{1, elem("q")}, {2, text("x")}, {3, hole(v(0))}, {4, parts(plain("x"), bound(v(0)))}, {7, parts(plain("x"), bound(v(0)), plain("y"), bound(num(1)))}, {5, hole(op(api.EAdd, v(0), v(0)))},
		{2, fields(elem("q"), plainField("a", "x"))}, {3, fields(elem("q"), boundField("a", v(0)))}, {6, fields(elem("q"), plainField("a", "x"), plainField("b", ""), boundField("c", part(v(0), "x")))},
		{3, when(v(0))}, {5, when(part(part(v(0), "a"), "b"))}, {1, with(nil)}, {3, with(nulls(1))}, {7, with(nulls(3))}, {2 + 1024, with([]api.Expr{chain(1024)})}, {3 + 2048, with([]api.Expr{bush(1024), chain(1024)})},
	} {
		if got := askedPieces(row.c); got != row.pieces {
			t.Errorf("%s: %d pieces, not %d", shown(list(row.c)), got, row.pieces)
		}
		for _, n := range []int{row.pieces - 1, row.pieces, row.pieces + 1} {
			want := api.OK
			if n < row.pieces {
				want = api.ErrCoreLarge
			}
			ahead := fill(api.MaxCore - n)
			expect(t, want, append(slices.Clone(ahead), row.c)...)
			expect(t, want, append(list(row.c), ahead...)...)
			expect(t, want, elem("q", append(list(row.c), ahead[1:]...)...))
			expect(t, want, with(nil, append(slices.Clone(ahead[1:]), row.c)...))
			expect(t, want, append(ahead[3:], otherwise(when(v(0)), row.c))...)
			expect(t, want, append(ahead[4:], otherwise(when(v(0), row.c), elem("q")))...)
		}
	}
	// A for is one piece, with two expressions; its element follows it.
	full := slices.Repeat(list(loop(v(0), v(0), elem("p"))), api.MaxCore/6)
	expect(t, api.OK, append(slices.Clone(full), fill(api.MaxCore%6)...)...)
	expect(t, api.ErrCoreLarge, append(slices.Clone(full), fill(api.MaxCore%6+1)...)...)
	expect(t, api.OK, append(fill(api.MaxCore-6), full[0])...)
	expect(t, api.ErrCoreLarge, append(fill(api.MaxCore-5), full[0])...)
	expect(t, api.ErrCoreLarge, append(fill(api.MaxCore-4), full[0])...)
}

// TestP15_1LargeFirst: too many pieces are told ahead of all else that speaks against that node, and behind what speaks against one ahead of it.
func TestP15_1LargeFirst(t *testing.T) {
	t.Parallel()
	fill := func(n int) []api.Core { return slices.Repeat(list(elem("p")), n) }
	for _, row := range []struct {
		pieces int
		c      api.Core
		code   api.Errno
	}{
		{1, api.Core{}, api.ErrCoreForm}, {1, elem("P"), api.ErrCoreForm}, {1, api.Core{Kind: api.CText}, api.ErrCoreForm}, {2, text(""), api.ErrCoreForm}, {4, api.Core{Kind: 9, Parts: []api.Part{{}}, Exprs: []api.Expr{{}}}, api.ErrCoreForm},
		// What is not bound has no expression, whatever lies there; what is bound has one, whatever text lies there.
		{2, parts(api.Part{Plain: "x", Expr: chain(9)}), api.ErrCoreForm}, {11, parts(api.Part{Plain: "x", Bound: true, Expr: chain(9)}), api.ErrCoreForm}, {2, fields(elem("q"), api.Field{Name: "a", Expr: chain(9)}), api.ErrCoreForm}, {11, fields(elem("q"), api.Field{Name: "a", Bound: true, Plain: "x", Expr: chain(9)}), api.ErrCoreForm},
		// What the Kind does not have counts too.
		{3, api.Core{Kind: api.CText, Parts: []api.Part{plain("x")}, Fields: []api.Field{plainField("a", "")}}, api.ErrCoreForm}, {4, api.Core{Kind: api.CText, Parts: []api.Part{plain("x")}, Exprs: nulls(1)}, api.ErrCoreForm}, {3, api.Core{Kind: api.CElem, Tag: "p", Exprs: nulls(1)}, api.ErrCoreForm},
		{3, hole(api.Expr{}), api.ErrCoreExpr}, {4, hole(op(api.ENull, v(0))), api.ErrCoreExpr}, {3, hole(v(1)), api.ErrCoreName}, {2 + 1025, hole(chain(1025)), api.ErrCoreExpr}, {1 + 2*64, with(nulls(64)), api.ErrCoreDeep},
	} {
		expect(t, row.code, append(fill(api.MaxCore-row.pieces), row.c)...)
		expect(t, api.ErrCoreLarge, append(fill(api.MaxCore-row.pieces+1), row.c)...)
		expect(t, row.code, append(list(row.c), fill(api.MaxCore)...)...)
	}
	for _, c := range list(with(nulls(api.MaxCore/2)), with(nulls(api.MaxCore)), hole(chain(4095)), parts(make([]api.Part, 4096)...), fields(elem("P"), make([]api.Field, 4096)...)) {
		expect(t, api.ErrCoreLarge, c)
	}
	expect(t, api.ErrCoreExpr, hole(chain(4094)))
	expect(t, api.ErrCoreDeep, with(nulls(api.MaxCore/2-1)))
	expect(t, api.ErrCoreForm, parts(make([]api.Part, 4095)...))
	expect(t, api.ErrCoreForm, fields(elem("p"), make([]api.Field, 4095)...))
}

// tower is a core in withs of so many values each, the outermost first.
func tower(c api.Core, widths ...int) api.Core {
	for _, n := range slices.Backward(widths) {
		c = with(nulls(n), c)
	}
	return c
}

// TestP15_1Stack: as many values on the stack as may be, and one more; the outermost have one.
func TestP15_1Stack(t *testing.T) {
	for _, widths := range [][]int{{63}, {1, 62}, {62, 1}, {0, 63, 0}, {31, 32}, {8, 8, 8, 8, 8, 8, 8, 7}, slices.Repeat([]int{1}, 63), {60, 3}} {
		for _, c := range samples() {
			want := api.OK
			if askedMore(c) > 0 {
				want = api.ErrCoreDeep
			}
			expect(t, want, tower(c, widths...))
			expect(t, want, tower(elem("p", when(v(63), c)), widths...))
			expect(t, want, tower(otherwise(when(v(63)), c), widths...))
		}
		expect(t, api.ErrCoreDeep, tower(with(nulls(1)), widths...))
		expect(t, api.OK, tower(hole(v(63)), widths...), tower(hole(v(63)), widths...))
		expect(t, api.ErrCoreName, tower(hole(v(64)), widths...))
		wider := slices.Clone(widths)
		wider[len(wider)/2]++
		expect(t, api.ErrCoreDeep, tower(text("x"), wider...))
		expect(t, api.ErrCoreDeep, tower(api.Core{}, wider...))
	}
	// It is asked at the node that puts the values there, whether it has kids or not.
	expect(t, api.ErrCoreDeep, with(nulls(64)))
	expect(t, api.ErrCoreDeep, with(nulls(64), api.Core{}))
	expect(t, api.OK, tower(loop(v(61), v(63), elem("p", hole(v(63)))), 61))
	expect(t, api.ErrCoreDeep, tower(loop(v(61), v(63), elem("p")), 62))
	expect(t, api.ErrCoreDeep, tower(loop(v(61), v(63), elem("p")), 63))
	expect(t, api.ErrCoreDeep, tower(api.Core{Kind: api.CFor}, 62))
	expect(t, api.ErrCoreForm, tower(api.Core{Kind: api.CFor}, 61))
	expect(t, api.OK, tower(looped(8, hole(v(63))), 47))
	expect(t, api.ErrCoreDeep, tower(looped(8, hole(v(63))), 48))
	expect(t, api.OK, looped(8, tower(hole(v(63)), 47)))
	expect(t, api.ErrCoreDeep, looped(8, tower(hole(v(63)), 48)))
	// Exprs of what is no with put nothing there.
	expect(t, api.ErrCoreForm, api.Core{Kind: api.CIf, Exprs: nulls(70)})
	expect(t, api.ErrCoreForm, api.Core{Kind: api.CElem, Tag: "p", Exprs: nulls(70)})
	expect(t, api.ErrCoreForm, api.Core{Kind: api.CText, Exprs: nulls(70)})
	expect(t, api.ErrCoreForm, api.Core{Kind: 6, Exprs: nulls(70)})
	expect(t, api.ErrCoreForm, api.Core{Kind: api.CFor, Exprs: nulls(70)})
	expect(t, api.ErrCoreDeep, tower(api.Core{Kind: api.CFor, Exprs: nulls(70)}, 62))
}

// TestP15_1Deep: elements lie as deep as may be, and one deeper; what is between them does not count.
func TestP15_1Deep(t *testing.T) {
	const most = 2*api.MaxNest - 1
	for n := most - 2; n < most+3; n++ {
		want := api.OK
		if n > most {
			want = api.ErrCoreDeep
		}
		for _, c := range list(text("x"), hole(v(0)), when(v(0)), with(nulls(2))) {
			expect(t, want, nested(n, c))
			expect(t, want, nested(n-1, elem("p", c, c)), nested(n, c))
			expect(t, want, tower(nested(n, c), 0, 0))
			expect(t, want, nested(n-7, when(v(0), with(nil, nested(3, otherwise(when(v(0)), nested(4, c)))))))
		}
		expect(t, want, nested(n-8, looped(8, text("x"))))
		expect(t, want, nested(n-1, loop(v(0), v(0), elem("p"))))
		deep := elem("p")
		for range n - 1 {
			deep = when(v(0), elem("p", deep))
		}
		expect(t, want, deep)
	}
	expect(t, api.ErrCoreDeep, nested(most, elem("P")))
	expect(t, api.ErrCoreForm, nested(most-1, elem("P")))
	expect(t, api.ErrCoreForm, nested(most, api.Core{}))
	expect(t, api.ErrCoreForm, nested(most, text("")))
	expect(t, api.ErrCoreExpr, nested(most, hole(api.Expr{})))
	expect(t, api.OK, slices.Repeat(list(nested(most, when(v(0)))), 60)...)
	// A for whose element would lie too deep may be itself.
	expect(t, api.ErrCoreDeep, nested(most, loop(v(0), v(0), elem("p"))))
	expect(t, api.ErrCoreName, nested(most, loop(v(1), v(0), elem("p"))))
}

// TestP15_1Ifs: what is no element, no for and puts nothing on the stack may lie as deep as there are pieces.
func TestP15_1Ifs(t *testing.T) {
	bare, tests := with(nil), text("x")
	for range api.MaxCore - 1 {
		bare = with(nil, bare)
	}
	expect(t, api.OK, bare)
	expect(t, api.ErrCoreLarge, with(nil, bare))
	for i := range (api.MaxCore - 2) / 3 {
		if i%2 == 0 {
			tests = when(v(0), tests)
		} else {
			tests = otherwise(when(v(0)), tests)
		}
	}
	expect(t, api.OK, tests)
	expect(t, api.ErrCoreLarge, when(v(0), tests))
}

// TestP15_1Loops: a for in MaxLoops others, and in one less.
func TestP15_1Loops(t *testing.T) {
	for n := range api.MaxLoops + 3 {
		want := api.OK
		if n > api.MaxLoops {
			want = api.ErrCoreDeep
		}
		expect(t, want, looped(n, text("x")))
		expect(t, want, looped(n, text("x")), looped(n, hole(v(0))))
		expect(t, want, otherwise(when(v(0)), elem("p", looped(n, with(nil)))))
		mixed := text("x")
		for range n {
			mixed = loop(v(0), v(0), elem("p", with(nulls(1), otherwise(when(v(0)), mixed, mixed))))
		}
		if n < 6 || n > api.MaxLoops {
			expect(t, want, mixed)
		}
	}
	expect(t, api.ErrCoreDeep, looped(8, api.Core{Kind: api.CFor}))
	expect(t, api.ErrCoreForm, looped(7, api.Core{Kind: api.CFor}))
	expect(t, api.OK, looped(8, elem("p")), looped(8, elem("p")))
	expect(t, api.OK, looped(7, elem("q", loop(v(0), v(0), elem("p")), loop(v(0), v(0), elem("p")))))
}

// TestP15_1Places: the last place of the stack, and the one behind it.
func TestP15_1Places(t *testing.T) {
	last := func(high int, make func(e api.Expr) api.Core) {
		t.Helper()
		for _, way := range []func(api.Expr) api.Expr{
			func(e api.Expr) api.Expr { return e },
			func(e api.Expr) api.Expr { return op(api.EIf, v(0), num(99), op(api.EAdd, e, v(0))) },
			func(e api.Expr) api.Expr { return call(8, part(op(api.EIndex, v(0), e), "x")) },
		} {
			for place := range high {
				expect(t, api.OK, make(way(v(place))))
			}
			for _, place := range []int{high, high + 1, 64, 1 << 32, -1, -high, 9223372036854775807, -9223372036854775808} {
				if place < 0 || place >= high {
					expect(t, api.ErrCoreName, make(way(v(place))))
				}
			}
		}
	}
	for name := range homes(v(0)) {
		high := 1
		if name == "key" {
			high = 3
		}
		last(high, func(e api.Expr) api.Core { return homes(e)[name] })
		last(high+5, func(e api.Expr) api.Core { return with(nulls(5), homes(e)[name]) })
		last(high+2, func(e api.Expr) api.Core { return loop(v(0), v(2), elem("p", homes(e)[name])) })
		last(high+4, func(e api.Expr) api.Core {
			return elem("q", with(nulls(1), loop(v(1), v(3), elem("p", otherwise(when(v(0)), with(nulls(1), homes(e)[name]))))))
		})
	}
	last(3, func(e api.Expr) api.Core { return loop(v(0), v(0), fields(elem("p"), boundField("a", e))) })
	last(4, func(e api.Expr) api.Core { return with(nulls(3), fields(elem("p"), boundField("a", e))) })
	// The values of a with lie there for its kids alone, those of a for for its key and kid.
	last(1, func(e api.Expr) api.Core { return with([]api.Expr{num(1), e, num(2)}, hole(v(3))) })
	last(1, func(e api.Expr) api.Core { return elem("p", with(nulls(4), hole(v(4))), hole(e)) })
	last(1, func(e api.Expr) api.Core { return elem("p", loop(v(0), v(0), elem("p", hole(v(2)))), hole(e)) })
	last(5, func(e api.Expr) api.Core { return with(nulls(2), loop(v(2), v(4), elem("p", hole(e)))) })
	last(1, func(e api.Expr) api.Core {
		return otherwise(when(v(0), with(nulls(2)), loop(v(0), v(0), elem("p"))), hole(e))
	})
	last(64, func(e api.Expr) api.Core { return with(nulls(63), hole(e)) })
}

func TestP15_1Texts(t *testing.T) {
	full := strings.Repeat("x", api.MaxStr)
	for _, s := range []string{full, strings.Repeat("é", api.MaxStr/2), full[:4093] + "€", full[:4092] + "😀"} {
		expect(t, api.OK, text(s), hole(str(s)), fields(elem("p"), plainField("a", s), boundField("b", str(s))))
		for _, more := range []string{"x", "\x00"} {
			expect(t, api.ErrCoreForm, text(s+more))
			expect(t, api.ErrCoreForm, fields(elem("p"), plainField("a", s+more)))
			expectHomes(t, api.ErrCoreExpr, str(s+more))
		}
	}
	// Each is asked by itself: together they may be longer.
	expect(t, api.OK, parts(plain(full), bound(v(0)), plain(full), bound(str(full))))
}
