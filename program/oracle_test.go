package program

import (
	"bytes"
	"encoding/binary"
	"fmt"
	"reflect"
	"regexp"
	"slices"
	"testing"
	"unicode/utf8"

	"stencil/api"
)

// scribe writes programs a second way: whatever they are, and with the place at which each piece begins. A piece is what is told as one where it is cut: a byte, a number, a whole, a text with its length.
type scribe struct {
	bytes  []byte
	starts []int
}

func (s *scribe) octet(x int) {
	s.starts = append(s.starts, len(s.bytes))
	s.bytes = append(s.bytes, byte(x))
}

func (s *scribe) number(n int) {
	s.starts = append(s.starts, len(s.bytes))
	s.bytes = binary.AppendUvarint(s.bytes, uint64(n))
}

func (s *scribe) wholes(xs ...int) {
	for _, x := range xs {
		s.starts = append(s.starts, len(s.bytes))
		s.bytes = binary.AppendVarint(s.bytes, int64(x))
	}
}

func (s *scribe) text(x string) {
	s.number(len(x))
	s.bytes = append(s.bytes, x...)
}

func (s *scribe) trees(trees []api.Tree) {
	s.number(len(trees))
	for _, tree := range trees {
		s.text(tree.Tag)
		if tree.Tag == "" {
			s.text(tree.Text)
			continue
		}
		s.number(len(tree.Attrs))
		for _, attr := range tree.Attrs {
			s.text(attr.Name)
			s.text(attr.Value)
		}
		s.trees(tree.Kids)
	}
}

func (s *scribe) blocks(blocks []api.Block) {
	s.number(len(blocks))
	for _, block := range blocks {
		s.number(block.Depth)
		s.number(len(block.Ops))
		for _, op := range block.Ops {
			s.octet(op.Kind)
			s.wholes(op.A, op.B, op.C)
			s.number(len(op.List))
			s.wholes(op.List...)
		}
		s.number(len(block.Update))
		s.wholes(block.Update...)
	}
}

// scribed is p as the form has it, whether p may be or not.
func scribed(p api.Program) scribe {
	var s scribe
	s.octet(1)
	s.number(len(p.Texts))
	for _, text := range p.Texts {
		s.text(text)
	}
	s.number(len(p.Codes))
	for _, code := range p.Codes {
		s.number(len(code))
		for _, inst := range code {
			s.octet(inst.Op)
			s.wholes(inst.A)
		}
	}
	s.trees(p.Statics)
	s.blocks(p.Blocks)
	return s
}

// lawful tells a second way whether all of p may be.
func lawful(p api.Program) bool {
	var wrong []string
	ask := func(what string, ok bool) {
		if !ok {
			wrong = append(wrong, what)
		}
	}
	ask("lists", len(p.Texts) <= 16384 && len(p.Codes) <= 8192 && len(p.Statics) <= 4096 && len(p.Blocks) <= 8192)
	for _, text := range p.Texts {
		ask("text", lawfulText(text))
	}
	for _, code := range p.Codes {
		ask("code", len(code) <= 8192)
		for _, inst := range code {
			ask("op", inst.Op == int(byte(inst.Op)))
		}
	}
	for _, tree := range p.Statics {
		nodes := 0
		ask("tree", lawfulTree(tree, 1, &nodes) && nodes <= 4096)
	}
	for _, block := range p.Blocks {
		ask("block", block.Depth >= 0 && block.Depth <= 64 && len(block.Ops) <= 8192 && len(block.Update) <= 8192)
		for _, op := range block.Ops {
			ask("kind", op.Kind == int(byte(op.Kind)) && len(op.List) <= 64)
		}
	}
	return len(wrong) == 0
}

var tagForm = regexp.MustCompile(`\A[a-z][a-z0-9-]{0,31}\z`)

func lawfulText(s string) bool { return len(s) <= 4096 && utf8.ValidString(s) }

func lawfulTree(tree api.Tree, depth int, nodes *int) bool {
	*nodes++
	if depth > 64 || len(tree.Attrs) > 4096 || !lawfulText(tree.Text) {
		return false
	}
	if tree.Tag == "" {
		return len(tree.Attrs)+len(tree.Kids) == 0
	}
	var names []string
	for _, attr := range tree.Attrs {
		names = append(names, attr.Name)
		if !lawfulText(attr.Value) {
			return false
		}
	}
	for _, kid := range tree.Kids {
		if !lawfulTree(kid, depth+1, nodes) {
			return false
		}
	}
	return tree.Text == "" && lawfulHead(tree.Tag, names)
}

// lawfulHead tells whether an element may have that tag and those attributes.
func lawfulHead(tag string, names []string) bool {
	isTag := func(s string) bool { return !tagForm.MatchString(s) }
	rising := slices.Compact(slices.Sorted(slices.Values(names)))
	return !slices.ContainsFunc(append(names, tag), isTag) && slices.Equal(names, rising)
}

// judge reads a second way: what is still to come lies on a pile, and nothing panics.
type judge struct {
	b     []byte
	at    int
	fault int
	pile  []func()
}

// verdict is the place of the first fault of b, or -1.
func verdict(b []byte) int {
	j := &judge{b: b, fault: -1}
	code := j.many(8192, func() { j.then(j.octet, j.whole) })
	j.then(j.version, j.many(16384, j.text), j.many(8192, code), j.many(4096, j.tree), j.many(8192, j.block))
	for len(j.pile) > 0 && j.fault < 0 {
		last := len(j.pile) - 1
		next := j.pile[last]
		j.pile = j.pile[:last]
		next()
	}
	if j.at < len(b) {
		j.wrong(j.at)
	}
	return j.fault
}

// wrong keeps the first fault.
func (j *judge) wrong(at int) {
	if j.fault < 0 {
		j.fault = at
	}
}

func (j *judge) then(tasks ...func()) {
	slices.Reverse(tasks)
	j.pile = append(j.pile, tasks...)
}

func (j *judge) number(limit uint64) int {
	n, size := binary.Uvarint(j.b[j.at:])
	if size <= 0 || n > limit || len(binary.AppendUvarint(nil, n)) != size {
		j.wrong(j.at)
		return 0
	}
	j.at += size
	return int(n)
}

func (j *judge) whole() { j.number(1<<64 - 1) }

func (j *judge) many(limit uint64, task func()) func() {
	return func() { j.times(j.number(limit), task) }
}

func (j *judge) times(n int, task func()) {
	if n > 0 {
		j.then(task, func() { j.times(n-1, task) })
	}
}

func (j *judge) octet() {
	if j.at == len(j.b) {
		j.wrong(j.at)
		return
	}
	j.at++
}

func (j *judge) version() {
	if !bytes.HasPrefix(j.b, []byte{1}) {
		j.wrong(0)
	}
	j.octet()
}

func (j *judge) text() { j.word() }

func (j *judge) word() string {
	start := j.at
	size := j.number(4096)
	end := min(j.at+size, len(j.b))
	word := string(j.b[j.at:end])
	if end < j.at+size || !utf8.ValidString(word) {
		j.wrong(start)
	}
	j.at = end
	return word
}

func (j *judge) tree() {
	nodes := 0
	j.then(j.node(1, &nodes))
}

func (j *judge) node(depth int, nodes *int) func() {
	return func() {
		start, names := j.at, []string(nil)
		*nodes++
		if *nodes > 4096 || depth > 64 {
			j.wrong(start)
		}
		tag := j.word()
		if tag == "" {
			j.then(j.text)
			return
		}
		attr := func() {
			names = append(names, j.word())
			j.text()
		}
		head := func() {
			if !lawfulHead(tag, names) {
				j.wrong(start)
			}
		}
		j.then(j.many(4096, attr), head, j.many(4096, j.node(depth+1, nodes)))
	}
}

func (j *judge) block() {
	op := func() { j.then(j.octet, j.whole, j.whole, j.whole, j.many(64, j.whole)) }
	j.then(func() { j.number(64) }, j.many(8192, op), j.many(8192, j.whole))
}

// alike tells whether two are the same, an empty list and none being one.
func alike(a, b any) bool { return alikeValues(reflect.ValueOf(a), reflect.ValueOf(b)) }

func alikeValues(a, b reflect.Value) bool {
	switch a.Kind() {
	case reflect.Slice:
		if a.Len() != b.Len() {
			return false
		}
		for i := range a.Len() {
			if !alikeValues(a.Index(i), b.Index(i)) {
				return false
			}
		}
		return true
	case reflect.Struct:
		for i := range a.NumField() {
			if !alikeValues(a.Field(i), b.Field(i)) {
				return false
			}
		}
		return true
	}
	return a.Equal(b)
}

// shown is the beginning of what is told of x.
func shown(x any) string {
	s := fmt.Sprintf("%+v", x)
	return s[:min(len(s), 600)]
}

// expectEncode asks for the bytes of p.
func expectEncode(t *testing.T, p api.Program, want []byte) {
	t.Helper()
	if b, code := Encode(p); !bytes.Equal(b, want) || code != api.OK {
		t.Errorf("Encode(%s): %s, %d, want %s", shown(p), shown(b), code, shown(want))
	}
}

// expectNoBytes asks for an error of p, with nothing beside it.
func expectNoBytes(t *testing.T, p api.Program, want api.Errno) {
	t.Helper()
	if b, code := Encode(p); b != nil || code != want {
		t.Errorf("Encode(%s): %s, %d, want %d", shown(p), shown(b), code, want)
	}
}

// expectDecode asks for the program of b.
func expectDecode(t *testing.T, b []byte, want api.Program) {
	t.Helper()
	if p, at, code := Decode(b); !alike(p, want) || at != 0 || code != api.OK {
		t.Errorf("Decode(%s): %s, %d, %d, want %s", shown(b), shown(p), at, code, shown(want))
	}
}

// expectFault asks for the place of the first fault of b, with nothing beside it.
func expectFault(t *testing.T, b []byte, want int) {
	t.Helper()
	if p, at, code := Decode(b); !reflect.DeepEqual(p, api.Program{}) || at != want || code != api.ErrProgramForm {
		t.Errorf("Decode(%s): %s, %d, %d, want %d", shown(b), shown(p), at, code, want)
	}
}

// expectBoth asks for p and b of one another.
func expectBoth(t *testing.T, p api.Program, b []byte) {
	t.Helper()
	expectEncode(t, p, b)
	expectDecode(t, b, p)
}

// expectScribed asks Encode and Decode for what the second way has of p, which may be.
func expectScribed(t *testing.T, p api.Program) {
	t.Helper()
	expectBoth(t, p, scribed(p).bytes)
}

// expectJudged holds Decode against the second way, and answers what that says.
func expectJudged(t *testing.T, b []byte) int {
	t.Helper()
	want := verdict(b)
	if want >= 0 {
		expectFault(t, b, want)
		return want
	}
	p, at, code := Decode(b)
	if at != 0 || code != api.OK || !bytes.Equal(scribed(p).bytes, b) || !lawful(p) {
		t.Errorf("Decode(%s): %s, %d, %d", shown(b), shown(p), at, code)
	}
	expectEncode(t, p, b)
	return want
}
