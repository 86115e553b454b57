package verify

import (
	"maps"
	"slices"
	"testing"

	"stencil/api"
)

// rows calls met with each row of at most that length of these; the row is met's for the call alone.
func rows[T any](length int, those []T, met func(row []T)) {
	row := make([]T, 0, length)
	var fill func()
	fill = func() {
		met(row)
		if len(row) == length {
			return
		}
		for _, x := range those {
			row = append(row, x)
			fill()
			row = row[:len(row)-1]
		}
	}
	fill()
}

// tally counts what was asked for, by error.
type tally map[api.Errno]int

// expectMet says that each of these was asked for often enough, OK too, and nothing else.
func (met tally) expectMet(t *testing.T, least int, codes ...api.Errno) {
	t.Helper()
	for _, code := range append(codes, api.OK) {
		if met[code] < least {
			t.Errorf("%d was asked for %d times", code, met[code])
		}
	}
	if len(met) != len(codes)+1 {
		t.Errorf("%v", slices.Sorted(maps.Keys(met)))
	}
}

// expectRows holds Verify against the second way, for each row of at most that length of these operations, as made makes a program of it.
func expectRows(t *testing.T, length int, those []api.Op, made func(row []api.Op) api.Program) tally {
	met := tally{}
	rows(length, those, func(row []api.Op) {
		if !t.Failed() {
			met[expectJudged(t, made(row)).code]++
		}
	})
	return met
}

func alone(row []api.Op) api.Program { return one(row...) }

// TestP22_1EveryShape: all short rows of elements and attributes.
func TestP22_1EveryShape(t *testing.T) {
	t.Parallel()
	expectRows(t, 6, []api.Op{open, attrP, boundQ, shut, words, still}, alone).expectMet(t, 50, api.ErrVerifyShape)
	expectRows(t, 5, []api.Op{open, attrP, boundP, attrQ, boundQ, shut, op(api.OpAttr, 4, 0), op(api.OpAttr, 2, 0)}, alone).expectMet(t, 30, api.ErrVerifyShape, api.ErrVerifyOp)
}

// TestP22_1EveryLet: all short rows of elements, OpLets and OpDrops, and what they leave on the stack.
func TestP22_1EveryLet(t *testing.T) {
	t.Parallel()
	those := []api.Op{open, shut, let, drop(1), drop(2), op(api.OpTextX, codeAt1)}
	expectRows(t, 7, those, alone).expectMet(t, 50, api.ErrVerifyShape, api.ErrVerifyCode)
	those = []api.Op{op(api.OpLet, codeAt1), op(api.OpLet, codeAt0), drop(1), drop(2), drop(0), op(api.OpTextX, codeAt2), op(api.OpIf, codeAt1)}
	expectRows(t, 5, those, alone).expectMet(t, 10, api.ErrVerifyShape, api.ErrVerifyCode, api.ErrVerifyOp)
}

// TestP22_1EveryItem: all short rows as the block of an OpFor.
func TestP22_1EveryItem(t *testing.T) {
	t.Parallel()
	expectRows(t, 6, []api.Op{open, shut, still, words, let, drop(1)}, func(row []api.Op) api.Program {
		return program0(block(1, loop(1)), block(3, row...))
	}).expectMet(t, 50, api.ErrVerifyShape, api.ErrVerifyLoop)
}

// TestP22_1EveryOwner: all short rows of such as own blocks, in two blocks, and what depth the blocks have.
func TestP22_1EveryOwner(t *testing.T) {
	t.Parallel()
	first := []api.Op{either(1, 0), either(2, 1), either(0, 2), loop(1), loop(2), with(1, 0, 0), with(2), with(3, 0), let, drop(1), open, shut}
	second := []api.Op{either(2, 0), either(0, 3), loop(2), with(2, 0, 0), with(1), open, shut}
	met := tally{}
	rows(2, first, func(ahead []api.Op) {
		rows(2, second, func(behind []api.Op) {
			for _, depths := range [][3]int{{1, 1, 1}, {3, 1, 1}, {1, 3, 1}, {3, 3, 3}, {3, 3, 2}, {3, 5, 5}, {2, 2, 2}} {
				if t.Failed() {
					return
				}
				// Each with as many blocks as there may be.
				all := []api.Block{block(1, ahead...), block(depths[0], behind...), block(depths[1], still), block(depths[2], still)}
				for n := 1; n <= len(all); n++ {
					met[expectJudged(t, program0(all[:n]...)).code]++
				}
			}
		})
	})
	met.expectMet(t, 20, api.ErrVerifyBlock, api.ErrVerifyDepth, api.ErrVerifyShape, api.ErrVerifyLoop)
}

// TestP22_1EveryField: all kinds with all small numbers in each field, at the beginning and in an element.
func TestP22_1EveryField(t *testing.T) {
	t.Parallel()
	met := tally{}
	numbers := []int{-1, 0, 1, 2, 3, 4, 5, 6}
	for kind := -1; kind < 15; kind++ {
		for _, list := range [][]int{nil, {0}, {1, codeAt2}, {-1}, {0, codes}} {
			rows(3, numbers, func(abc []int) {
				if t.Failed() || len(abc) < 3 {
					return
				}
				o := op(kind, abc...)
				o.List = list
				rest := block(1, still)
				for _, p := range []api.Program{one(o), program0(block(1, open, let, o, drop(1), shut), rest), program0(block(1, open, o, shut), block(3, still)), program0(block(1, loop(1)), block(3, o), rest)} {
					met[expectJudged(t, p).code]++
				}
			})
		}
	}
	met.expectMet(t, 20, api.ErrVerifyOp, api.ErrVerifyCode, api.ErrVerifyShape, api.ErrVerifyBlock, api.ErrVerifyDepth, api.ErrVerifyLoop)
}

// TestP22_1EveryUpdate: all short lists of places, of blocks with few operations.
func TestP22_1EveryUpdate(t *testing.T) {
	t.Parallel()
	met := tally{}
	for size := range 5 {
		rows(4, []int{-1, 0, 1, 2, 3, 4, 5}, func(update []int) {
			p := one(times(size, words)...)
			p.Blocks[0].Update = update
			met[expectJudged(t, p).code]++
			// In a block behind one that is right.
			p = program0(block(1, either(1, 0)), p.Blocks[0])
			met[expectJudged(t, p).code]++
		})
	}
	met.expectMet(t, 50, api.ErrVerifyUpdate)
}
