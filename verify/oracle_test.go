package verify

import (
	"bytes"
	"regexp"
	"slices"
	"unicode/utf8"

	"stencil/api"
	"stencil/code"
	"stencil/forest"
)

// The document said a second time: all that is wrong is gathered, each with where it stands in the promise's row, and the least is answered. What lies around an operation is counted anew for each, from what stands ahead of it; the table of the kinds is a table.

// fields is a row of the table of kinds: what A, B, C and List are.
var fields = map[int]string{
	api.OpText: "t...", api.OpTextX: "c...", api.OpOpen: "g...", api.OpAttr: "gt..", api.OpAttrX: "gc..", api.OpClose: "....", api.OpStatic: "s...",
	api.OpIf: "cbb.", api.OpFor: "ckb.", api.OpWith: "..bl", api.OpLet: "c...", api.OpDrop: "n...",
}

var tagForm = regexp.MustCompile(`\A[a-z][a-z0-9-]{0,31}\z`)

// rank is where a fault stands: its point, its block, operations or what is behind them, its place, which of the errors.
type rank [5]int

// judge gathers the faults of a program.
type judge struct {
	api.Program
	least rank
	first found
	any   bool
}

// judged is what P22.1 says of p.
func judged(p api.Program) found {
	j := judge{Program: p}
	j.shared()
	if j.any {
		return j.first
	}
	j.note(len(p.Blocks) == 0 || len(p.Blocks) > 8192, rank{2}, found{0, 0, api.ErrVerifyBlock})
	for number := range p.Blocks {
		j.block(number)
		// What is wrong in a block counts ahead of all of the next ones.
		if j.any {
			return j.first
		}
	}
	return j.first
}

func (j *judge) note(wrong bool, at rank, f found) {
	if wrong && (!j.any || slices.Compare(at[:], j.least[:]) < 0) {
		j.least, j.first, j.any = at, f, true
	}
}

func (j *judge) shared() {
	for i, s := range j.Texts {
		j.note(i >= 16384 || len(s) > 4096 || !utf8.ValidString(s), rank{1, 1, i}, found{0, i, api.ErrVerifyText})
	}
	for i, c := range j.Codes {
		j.note(i >= 8192 || code.Check(c, len(j.Texts), 64) != api.OK, rank{1, 2, i}, found{0, i, api.ErrVerifyCode})
	}
	for i, s := range j.Statics {
		j.note(i >= 4096 || s.Tag == "" || forest.Check([]api.Tree{s}) != api.OK, rank{1, 3, i}, found{0, i, api.ErrVerifyTree})
	}
}

// owner is an operation that a block belongs to.
type owner struct {
	block, place int
}

// owners are all operations of lesser blocks that name a block as theirs, in their row.
func (j *judge) owners(number int) []owner {
	var out []owner
	for b := range number {
		for place, o := range j.Blocks[b].Ops {
			for range count(named(o), number) {
				out = append(out, owner{b, place})
			}
		}
	}
	return out
}

// named are the blocks that an operation names, 0 too.
func named(o api.Op) []int {
	var out []int
	for i, what := range fields[o.Kind] {
		if what == 'b' {
			out = append(out, []int{o.A, o.B, o.C}[i])
		}
	}
	return out
}

func count(list []int, x int) int {
	n := 0
	for _, y := range list {
		if x == y {
			n++
		}
	}
	return n
}

// kinds is how many operations of a kind there are.
func kinds(ops []api.Op, kind int) int {
	n := 0
	for _, o := range ops {
		if o.Kind == kind {
			n++
		}
	}
	return n
}

// left is how many OpLets of a row of operations its OpDrops leave.
func left(ops []api.Op) int {
	n := kinds(ops, api.OpLet)
	for _, o := range ops {
		if o.Kind == api.OpDrop {
			n -= o.A
		}
	}
	return n
}

// begun is behind which operation the innermost open element began, 0 if none is open.
func begun(ops []api.Op) int {
	for at := len(ops); at > 0; at-- {
		tail := ops[at-1:]
		if kinds(tail, api.OpOpen) > kinds(tail, api.OpClose) {
			return at
		}
	}
	return 0
}

// elements is how many elements lie around an operation, loops how many OpFors.
func (j *judge) around(number, place int) (elements, loops int) {
	for {
		ahead := j.Blocks[number].Ops[:place]
		elements += kinds(ahead, api.OpOpen) - kinds(ahead, api.OpClose)
		mine := j.owners(number)
		if len(mine) == 0 {
			return elements, loops
		}
		number, place = mine[0].block, mine[0].place
		if j.Blocks[number].Ops[place].Kind == api.OpFor {
			loops++
		}
	}
}

// more is how many values an operation puts on the stack.
func more(o api.Op) int {
	return map[int]int{api.OpFor: 2, api.OpWith: len(o.List), api.OpLet: 1}[o.Kind]
}

func (j *judge) block(number int) {
	b, mine := j.Blocks[number], j.owners(number)
	want, looped := 1, false
	if len(mine) > 0 {
		o := j.Blocks[mine[0].block].Ops[mine[0].place]
		want = j.Blocks[mine[0].block].Depth + left(j.Blocks[mine[0].block].Ops[:mine[0].place]) + more(o)
		looped = o.Kind == api.OpFor
	}
	j.note(number > 0 && len(mine) == 0, rank{3, number, 1}, found{number, 0, api.ErrVerifyBlock})
	j.note(b.Depth != want, rank{3, number, 2}, found{number, 0, api.ErrVerifyDepth})
	for place := range b.Ops {
		j.op(number, place)
		// What is behind it in the row counts for less.
		if j.any {
			return
		}
	}
	size := len(b.Ops)
	j.note(kinds(b.Ops, api.OpOpen) != kinds(b.Ops, api.OpClose) || left(b.Ops) != 0, rank{3, number, 4}, found{number, size, api.ErrVerifyShape})
	j.note(looped && !isItem(b.Ops), rank{3, number, 5}, found{number, 0, api.ErrVerifyLoop})
	for at, place := range b.Update {
		wrong := place < 0 || place > size-1 || at > 0 && place <= b.Update[at-1]
		j.note(wrong, rank{3, number, 6, at}, found{number, at, api.ErrVerifyUpdate})
	}
}

// isItem tells whether a row is one static, or one element from its beginning to its end.
func isItem(ops []api.Op) bool {
	if len(ops) == 1 {
		return ops[0].Kind == api.OpStatic
	}
	for at := range ops {
		ahead := ops[:at]
		if open := kinds(ahead, api.OpOpen) - kinds(ahead, api.OpClose); (open == 0) != (at == 0) {
			return false
		}
	}
	return len(ops) > 0 && ops[0].Kind == api.OpOpen && ops[len(ops)-1].Kind == api.OpClose
}

func (j *judge) op(number, place int) {
	o := j.Blocks[number].Ops[place]
	for which, wrong := range []func(number, place int, o api.Op) bool{j.wrongOp, j.wrongCode, j.wrongShape, j.wrongBlock, j.wrongDepth, j.wrongLoop} {
		codes := []api.Errno{api.ErrVerifyOp, api.ErrVerifyCode, api.ErrVerifyShape, api.ErrVerifyBlock, api.ErrVerifyDepth, api.ErrVerifyLoop}
		if wrong(number, place, o) {
			j.note(true, rank{3, number, 3, place, which}, found{number, place, codes[which]})
			return
		}
	}
}

func (j *judge) wrongOp(_, place int, o api.Op) bool {
	row, ok := fields[o.Kind]
	if !ok || place >= 8192 || len(o.List) > 64 {
		return true
	}
	for i, x := range []int{o.A, o.B, o.C, len(o.List)} {
		if j.wrongField(row[i], x) {
			return true
		}
	}
	for _, x := range o.List {
		if j.wrongField('c', x) {
			return true
		}
	}
	return false
}

// wrongField tells whether a number may not stand where the table has that.
func (j *judge) wrongField(what byte, x int) bool {
	none := func(size int) bool { return x < 0 || x > size-1 }
	switch what {
	case 't':
		return none(len(j.Texts))
	case 'g':
		return none(len(j.Texts)) || !tagForm.MatchString(j.Texts[x])
	case 'c', 'k':
		return none(len(j.Codes))
	case 's':
		return none(len(j.Statics))
	case 'n':
		return x <= 0
	case 'b', 'l':
		return false
	}
	return x != 0
}

func (j *judge) wrongCode(number, place int, o api.Op) bool {
	lie := j.Blocks[number].Depth + left(j.Blocks[number].Ops[:place])
	refused := func(x, lie int) bool { return code.Check(j.Codes[x], len(j.Texts), lie) != api.OK }
	for i, what := range fields[o.Kind] {
		switch what {
		case 'c':
			if refused([]int{o.A, o.B}[i], lie) {
				return true
			}
		case 'k':
			if refused(o.B, lie+2) {
				return true
			}
		case 'l':
			for _, x := range o.List {
				if refused(x, lie) {
					return true
				}
			}
		}
	}
	return false
}

func (j *judge) wrongShape(number, place int, o api.Op) bool {
	ahead := j.Blocks[number].Ops[:place]
	elements, _ := j.around(number, place)
	inner := ahead[begun(ahead):]
	switch o.Kind {
	case api.OpAttr, api.OpAttrX:
		// Nothing but attributes since an element began; their names are rising so far.
		last := []byte{}
		for _, other := range inner {
			if other.Kind != api.OpAttr && other.Kind != api.OpAttrX {
				return true
			}
			last = []byte(j.Texts[other.A])
		}
		return begun(ahead) == 0 || bytes.Compare([]byte(j.Texts[o.A]), last) <= 0
	case api.OpClose:
		return begun(ahead) == 0 || left(inner) != 0
	case api.OpDrop:
		return o.A > left(inner)
	case api.OpOpen:
		// It lies one deeper than those around it.
		return elements+1 > 63
	case api.OpStatic:
		return elements+tall(j.Statics[o.A]) > 64
	}
	return false
}

// tall is how many nodes at most lie in one another.
func tall(tree api.Tree) int {
	most := 0
	for _, kid := range tree.Kids {
		most = max(most, tall(kid))
	}
	return most + 1
}

func (j *judge) wrongBlock(number, place int, o api.Op) bool {
	for _, b := range named(o) {
		if b == 0 && o.Kind == api.OpIf {
			continue
		}
		if b <= number || b > len(j.Blocks)-1 {
			return true
		}
		// It is this one's just if this one is the first, and names it once.
		mine := j.owners(b)
		if mine[0] != (owner{number, place}) || len(mine) > 1 && mine[1] == mine[0] {
			return true
		}
	}
	return false
}

func (j *judge) wrongDepth(number, place int, o api.Op) bool {
	return j.Blocks[number].Depth+left(j.Blocks[number].Ops[:place])+more(o) > 64
}

func (j *judge) wrongLoop(number, place int, o api.Op) bool {
	_, loops := j.around(number, place)
	return o.Kind == api.OpFor && loops >= 8
}
