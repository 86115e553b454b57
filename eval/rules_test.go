package eval

import (
	"math/rand"
	"reflect"
	"strconv"
	"strings"
	"sync"
	"testing"
	"time"

	"stencil/api"
	"stencil/value"
)

// roomyExpr is e with spare room behind each of its lists, and a mark there.
func roomyExpr(e api.Expr) api.Expr {
	kids := make([]api.Expr, 0, len(e.Kids)+2)
	for _, kid := range e.Kids {
		kids = append(kids, roomyExpr(kid))
	}
	e.Kids = kids
	for i := range 2 {
		kids[:cap(kids)][len(kids)+i] = variable("mark")
	}
	return e
}

// openedExpr is e with the spare room of each of its lists as part of it.
func openedExpr(e api.Expr) api.Expr {
	kids := []api.Expr{}
	for _, kid := range e.Kids[:cap(e.Kids)] {
		kids = append(kids, openedExpr(kid))
	}
	e.Kids = kids
	return e
}

func roomy(v api.Value) api.Value {
	parts := make([]api.Value, 0, len(v.List)+2)
	for _, one := range v.List {
		parts = append(parts, roomy(one))
	}
	names := append(make([]string, 0, len(v.Names)+2), v.Names...)
	v.List, v.Names = parts, names
	for i := range 2 {
		parts[:cap(parts)][len(parts)+i] = text("mark")
		names[:cap(names)][len(names)+i] = "mark"
	}
	return v
}

func opened(v api.Value) api.Value {
	parts := []api.Value{}
	for _, one := range v.List[:cap(v.List)] {
		parts = append(parts, opened(one))
	}
	v.List, v.Names = parts, append([]string{}, v.Names[:cap(v.Names)]...)
	return v
}

// spoil overwrites all that v's lists hold, their spare room too.
func spoil(v api.Value) {
	for _, one := range v.List {
		spoil(one)
	}
	for i := range v.List[:cap(v.List)] {
		v.List[:cap(v.List)][i] = text("spoilt")
	}
	for i := range v.Names[:cap(v.Names)] {
		v.Names[:cap(v.Names)][i] = "spoilt"
	}
}

func roomyEnv(env []api.Bind) []api.Bind {
	out := make([]api.Bind, 0, len(env)+2)
	for _, b := range env {
		out = append(out, api.Bind{Name: b.Name, Value: roomy(b.Value)})
	}
	for i := range 2 {
		out[:cap(out)][len(out)+i] = api.Bind{Name: "mark", Value: number(i)}
	}
	return out
}

func openedEnv(env []api.Bind) []api.Bind {
	out := []api.Bind{}
	for _, b := range env[:cap(env)] {
		out = append(out, api.Bind{Name: b.Name, Value: opened(b.Value)})
	}
	return out
}

// handed are expressions and names for them, of which lists and records come out, or errors.
func handed() ([]string, []api.Bind) {
	inner := rec("a,b", number(1), list(text("x"), list(), rec("-")))
	return []string{"l", "r", "l[1]", "r.b", "r['b'][1]", "true ? l : r", "l == l", "len(l) + len(r)", "l[0] ~ r.a", "x", "mark", "l[9]", "r.mark", "l + 1", "1 / 0", "-"},
		[]api.Bind{{Name: "l", Value: list(number(5), inner, list(inner, inner))}, {Name: "r", Value: inner}}
}

func TestR4ArgumentsStay(t *testing.T) {
	texts, plain := handed()
	for _, s := range texts {
		e := api.Expr{Op: api.ENeg}
		if s != "-" {
			e = read(t, s)
		}
		for _, wrong := range []bool{false, true} {
			binds := append([]api.Bind{}, plain...)
			if wrong {
				binds = append(binds, api.Bind{Name: "z", Value: rec("a,a", null, null)})
			}
			full, env := roomyExpr(e), roomyEnv(binds)
			tree, bound := openedExpr(full), openedEnv(env)
			v, code := Eval(full, env)
			names := Names(full)
			if !reflect.DeepEqual(openedExpr(full), tree) || !reflect.DeepEqual(openedEnv(env), bound) {
				t.Errorf("%s: an argument was changed", s)
			}
			expectEval(t, e, binds, answer{v, code})
			expectNames(t, e, names...)
		}
	}
}

func TestR4AnswersAreNew(t *testing.T) {
	texts, env := handed()
	for _, s := range texts[:9] {
		e, binds := read(t, s), roomyEnv(env)
		bound := openedEnv(binds)
		one, code := Eval(e, binds)
		two, again := Eval(e, binds)
		want := came(one)
		if code != api.OK || again != api.OK {
			t.Fatalf("%s: %d, %d", s, code, again)
		}
		spoil(two)
		if !reflect.DeepEqual(openedEnv(binds), bound) {
			t.Errorf("%s: an answer is part of what was handed in", s)
		}
		expectEval(t, e, env, want)
		expectEval(t, e, binds, want)
		kept := opened(one)
		for _, b := range binds {
			spoil(b.Value)
		}
		if !reflect.DeepEqual(opened(one), kept) {
			t.Errorf("%s: what was handed in is part of an answer", s)
		}
	}
	e := read(t, "a + b + a")
	names := Names(e)
	names = append(names[:1], "z")
	names[0] = "y"
	expectNames(t, e, "a", "b")
}

// slots counts in how many lists of one answer each place of memory lies.
func slots(v api.Value, met map[any]int) {
	for i := range v.List {
		met[&v.List[i]]++
		slots(v.List[i], met)
	}
	for i := range v.Names {
		met[&v.Names[i]]++
	}
}

func TestR4ListsOfOneAnswer(t *testing.T) {
	shared := rec("a,b", number(1), list(number(2), number(3)))
	v := list(shared, shared, list(shared, shared.List[1], shared.List[1]))
	got, code := Eval(variable("v"), []api.Bind{{Name: "v", Value: v}})
	if code != api.OK || !alike(got, v) {
		t.Fatalf("%v, %d", got, code)
	}
	met := map[any]int{}
	slots(got, met)
	for _, n := range met {
		if n > 1 {
			t.Fatal("two lists of one answer share memory")
		}
	}
}

func TestR1Deep(t *testing.T) {
	a, env := variable("a"), []api.Bind{{Name: "a", Value: truth(true)}}
	for outer := api.EField; outer <= api.EIf; outer++ {
		first, last := a, a
		for range 4095 {
			first = filled(outer, first, a, a)
			kids := []api.Expr{a, a, a}
			kids[askedKids(outer)-1] = last
			last = filled(outer, kids...)
		}
		expectNone(t, first, env)
		expectNone(t, last, env)
	}
	deep := a
	for range api.MaxExpr - 1 {
		deep = op(api.ENot, deep)
	}
	expectEval(t, deep, env, came(truth(false)))
	// A tree that holds one kid again and again has more nodes than could ever be counted; so has such a value.
	tree, v := a, null
	for range 4000 {
		tree = op(api.EIf, tree, tree, tree)
		v = list(v, v)
	}
	expectNone(t, tree, env)
	expectEval(t, a, append(env, api.Bind{Name: "b", Value: v}), failed(api.ErrEvalTree))
	expectNone(t, api.Expr{Op: api.EAdd, Kids: make([]api.Expr, 1000000)}, env)
	nested := number(7)
	for range api.MaxDepth - 1 {
		nested = list(nested)
	}
	expectEval(t, read(t, "v"+strings.Repeat("[0]", api.MaxDepth-1)), []api.Bind{{Name: "v", Value: nested}}, came(number(7)))
	expectEval(t, read(t, "v"+strings.Repeat("[0]", api.MaxDepth)), []api.Bind{{Name: "v", Value: nested}}, failed(api.ErrEvalType))
}

// TestR1Wild hands in what nobody means.
func TestR1Wild(t *testing.T) {
	r := rand.New(rand.NewSource(7))
	var wild func(depth int) api.Expr
	wild = func(depth int) api.Expr {
		e := api.Expr{Op: r.Intn(34) - 1, Int: r.Intn(12) - 1, Str: []string{"", "a", "\xff", "A", "null"}[r.Intn(5)]}
		if r.Intn(3) > 0 {
			e = filled(1+r.Intn(31), variable("a"), variable("a"), variable("b"))
		}
		for i := range e.Kids {
			if depth > 0 {
				e.Kids[i] = wild(depth - 1)
			}
		}
		return e
	}
	values := append(wrongValues()[:10], samples()[:20]...)
	for range 20000 {
		env := []api.Bind{{Name: "a", Value: values[r.Intn(len(values))]}, {Name: "b", Value: values[10+r.Intn(20)]}}[r.Intn(2):]
		e := wild(3)
		expectAsked(t, e, env)
		expectNames(t, e, askedNames(e)...)
	}
}

// TestR1Size asks for times that a copy of each value on the way, or a search for each name, would break by far.
func TestR1Size(t *testing.T) {
	start := time.Now()
	big := many(api.MaxItems - api.MaxDepth)
	for range api.MaxDepth - 2 {
		big = rec("a", big)
	}
	if value.Check(big) != api.OK {
		t.Fatal("the value may not be")
	}
	path := "v" + strings.Repeat(".a", api.MaxDepth-2)
	same := "v == v" + strings.Repeat(" && v == v", 120)
	reach := path + "[0] == 0" + strings.Repeat(" && "+path+"[1] == 1", 9)
	for range 20 {
		for _, s := range []string{same, reach} {
			expectEval(t, read(t, s), []api.Bind{{Name: "v", Value: big}}, came(truth(true)))
		}
	}
	env := []api.Bind{}
	for i := range 300000 {
		env = append(env, api.Bind{Name: "n" + strconv.Itoa(i), Value: number(i)})
	}
	e := variable("n0")
	for range api.MaxExpr/2 - 1 {
		e = op(api.EAdd, e, variable("n1"))
	}
	for range 10 {
		expectEval(t, e, env, came(number(api.MaxExpr/2-1)))
		expectEval(t, variable("n"), env, failed(api.ErrEvalName))
	}
	texts := api.Expr{Op: api.EStr, Str: strings.Repeat("}", api.MaxStr)}
	for range api.MaxExpr/2 - 1 {
		texts = op(api.EIf, op(api.ETrue), texts, op(api.ENull))
		if _, code := Eval(texts, nil); code == api.ErrEvalTree {
			break
		}
	}
	if spent := time.Since(start); spent > 20*time.Second {
		t.Errorf("it took %v", spent)
	}
}

func TestR5Goroutines(t *testing.T) {
	texts, env := handed()
	var group sync.WaitGroup
	for range 8 {
		group.Go(func() {
			for range 100 {
				for _, s := range texts[:15] {
					e := read(t, s)
					expectEval(t, e, env, asked(e, env))
					expectNames(t, e, askedNames(e)...)
				}
			}
		})
	}
	group.Wait()
}

// TestR5AgainTheSame: what a call answered hangs on no call ahead of it.
func TestR5AgainTheSame(t *testing.T) {
	m := maker{rand.New(rand.NewSource(8)), 5}
	env := m.env()
	trees, first := []api.Expr{}, []answer{}
	for range 300 {
		e := m.tree(4, 1+m.Intn(6))
		v, code := Eval(e, env)
		trees, first = append(trees, e), append(first, answer{v, code})
		Eval(e, nil)
		Eval(api.Expr{}, env)
	}
	for i, e := range trees {
		expectEval(t, e, env, first[i])
	}
}
