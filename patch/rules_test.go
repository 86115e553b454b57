package patch

import (
	"fmt"
	"math"
	"reflect"
	"slices"
	"strings"
	"sync"
	"testing"
	"time"

	"stencil/api"
)

// copied is a rendering of other memory, whose lists have room for more, filled with what is wrong where it is read.
func copied(r shown) shown {
	out := shown{roomy(r.spots, api.Spot{Origin: api.Origin{Node: -7}, Parent: 7, Text: "room"}), roomy(r.loops, api.Loop{Origin: api.Origin{Loops: -7}})}
	for i, spot := range r.spots {
		out.spots[i].Attrs = roomy(spot.Attrs, api.Attr{Name: "room", Value: "room"})
	}
	for i, loop := range r.loops {
		out.loops[i].Keys = roomy(loop.Keys, api.Key{Kind: -7, Str: "room"})
	}
	return out
}

func roomy[T any](list []T, filling T) []T {
	out := append(slices.Clone(list), filling, filling, filling)
	return out[:len(list)]
}

// opened is all that a rendering holds, to the ends of its lists' room.
func opened(r shown) string {
	var out strings.Builder
	for _, spot := range r.spots[:cap(r.spots)] {
		fmt.Fprintf(&out, "%+v %+v;", spot, spot.Attrs[:cap(spot.Attrs)])
	}
	for _, loop := range r.loops[:cap(r.loops)] {
		fmt.Fprintf(&out, "%+v %+v;", loop, loop.Keys[:cap(loop.Keys)])
	}
	return out.String()
}

// spoil overwrites all that a rendering holds.
func spoil(r shown) {
	for i := range r.spots {
		for j := range r.spots[i].Attrs {
			r.spots[i].Attrs[j] = api.Attr{Name: "spoilt"}
		}
		r.spots[i] = api.Spot{Origin: api.Origin{Node: -9}, Parent: 99, Text: "spoilt"}
	}
	for i := range r.loops {
		for j := range r.loops[i].Keys {
			r.loops[i].Keys[j] = api.Key{Kind: 99}
		}
		r.loops[i] = api.Loop{Origin: api.Origin{Loops: 99}}
	}
}

// broken is a copy of r in which one number, text or list is another one.
func (m maker) broken(r shown) shown {
	r = copied(r)
	var all []reflect.Value
	var gather func(reflect.Value)
	gather = func(x reflect.Value) {
		switch x.Kind() {
		case reflect.Struct:
			for i := range x.NumField() {
				gather(x.Field(i))
			}
			return
		case reflect.Slice, reflect.Array:
			for i := range x.Len() {
				gather(x.Index(i))
			}
			if x.Kind() == reflect.Array {
				return
			}
		}
		all = append(all, x)
	}
	gather(reflect.ValueOf(&r.spots).Elem())
	gather(reflect.ValueOf(&r.loops).Elem())
	one := all[m.Intn(len(all))]
	switch one.Kind() {
	case reflect.Int:
		one.SetInt(int64([]int{-2, -1, 0, 1, 2, 3, 4, 8, 9, math.MinInt, math.MaxInt}[m.Intn(11)]))
	case reflect.String:
		one.SetString(m.word("", "a", "p", "x", "\xff", "1"))
	case reflect.Slice:
		switch n := one.Len(); {
		case n > 0 && m.chance(2):
			one.Set(one.Slice(0, n-1))
		case n > 0:
			one.Set(reflect.Append(one, one.Index(m.Intn(n))))
		default:
			one.Set(reflect.MakeSlice(one.Type(), 1, 1))
		}
	}
	return r
}

// TestR1Any: whatever is handed in, there is an answer, and it is the one that was asked for.
func TestR1Any(t *testing.T) {
	t.Parallel()
	m, met := newMaker(185), map[api.Errno]int{}
	for i := range 400 {
		a, b := m.rendering(1+i%5, 1+i%12), m.rendering(1+i%5, 1+i%12)
		for range 10 {
			met[expectAsked(t, m.broken(a), b)]++
			met[expectAsked(t, a, m.broken(b))]++
			worse := m.broken(m.broken(a))
			met[expectAsked(t, worse, m.broken(worse))]++
		}
	}
	if met[api.OK] < 2000 || met[api.ErrPatchSpots] < 2000 || len(met) != 2 {
		t.Errorf("%v", met)
	}
}

// TestR1Numbers: the least and the greatest numbers, everywhere.
func TestR1Numbers(t *testing.T) {
	ends := []int{math.MinInt, math.MinInt + 1, -2, -1, 0, 1, 7, 8, 9, 1 << 32, math.MaxInt - 1, math.MaxInt}
	for _, first := range ends {
		for _, second := range ends {
			o := api.Origin{Node: first, Loops: second}
			for _, one := range []shown{{spots: []api.Spot{{Origin: o, Parent: -1}}}, {loops: []api.Loop{{Origin: o}}}, {spots: []api.Spot{{Parent: first, Tag: "p"}, {Origin: api.Origin{Node: 1}, Parent: second}}}, {loops: []api.Loop{{Keys: []api.Key{{Int: first}, {Int: second}}}}}} {
				expectAsked(t, one, shown{})
				expectAsked(t, one, one)
				expectAsked(t, fine(), one)
			}
		}
	}
}

// large is a rendering of n spots and n/4 loops in a chain or side by side, the rows of which are turned by so many.
func large(n, turn int, deep bool) shown {
	var r shown
	key := strings.Repeat("k", 100)
	keys := make([]api.Key, n/2)
	for i := range keys {
		keys[i] = api.Key{Kind: api.KStr, Str: key + fmt.Sprint((i*7+turn)%(n/2))}
	}
	for i := range n {
		o := api.Origin{Node: i % 4, Loops: 1}
		o.Keys[0] = api.Key{Kind: api.KStr, Str: key + fmt.Sprint((i+turn)/4)}
		spot := api.Spot{Origin: o, Parent: -1, Tag: "p", Attrs: []api.Attr{{Name: "a", Value: fmt.Sprint(turn)}}}
		if deep {
			spot.Parent = i - 1
		}
		r.spots = append(r.spots, spot)
		if i%4 == 0 {
			r.loops = append(r.loops, api.Loop{Origin: o, Keys: keys[len(r.loops):min(len(keys), len(r.loops)+5)]})
		}
	}
	r.loops[0].Keys = keys
	return r
}

// TestR1Time: what is sixteen times as large takes about sixteen times as long.
func TestR1Time(t *testing.T) {
	spent := func(times int, a, b shown) time.Duration {
		shortest := time.Hour
		for range 5 {
			begun := time.Now()
			for range times {
				if _, code := least(a, b); code != api.OK {
					t.Fatal(code)
				}
			}
			shortest = min(shortest, time.Since(begun))
		}
		return shortest
	}
	for _, deep := range []bool{false, true} {
		for _, turn := range []int{0, 4, 1 << 20} {
			small, whole := spent(16, large(1024, 0, deep), large(1024, turn, deep)), spent(1, large(16384, 0, deep), large(16384, turn, deep))
			if whole > 10*small+50*time.Millisecond {
				t.Errorf("%v, sixteen of a sixteenth %v", whole, small)
			}
		}
	}
}

// TestR4ArgumentsStay: nothing that is handed in is changed, nor the room of its lists, whether it may be or not.
func TestR4ArgumentsStay(t *testing.T) {
	t.Parallel()
	m := newMaker(186)
	for i := range 600 {
		a, b := copied(m.rendering(1+i%6, 1+i%20)), copied(m.rendering(1+i%6, 1+i%20))
		if i%3 == 0 {
			a, b = copied(m.broken(a)), copied(m.broken(b))
		}
		before, other := opened(a), opened(b)
		least(a, b)
		if opened(a) != before || opened(b) != other {
			t.Fatalf("changed: %s, %s", cut(a), cut(b))
		}
	}
	for _, one := range slips() {
		bad := fine()
		one.wrong(&bad)
		bad = copied(bad)
		before := opened(bad)
		least(bad, fine())
		least(fine(), bad)
		if opened(bad) != before {
			t.Fatalf("changed: %s", one.name)
		}
	}
}

// overwrite fills the lists of a plan, to the ends of their room.
func overwrite(p api.Plan, which int) {
	switch which {
	case 0:
		for i := range p.Kept[:cap(p.Kept)] {
			p.Kept[:cap(p.Kept)][i] = [2]int{-5, -5}
		}
	case 1:
		for i := range p.Gone[:cap(p.Gone)] {
			p.Gone[:cap(p.Gone)][i] = -5
		}
	case 2:
		for i := range p.New[:cap(p.New)] {
			p.New[:cap(p.New)][i] = -5
		}
	}
}

// TestR4NewMemory: no two lists of one answer, nor of two, share memory, nor does one with what was handed in.
func TestR4NewMemory(t *testing.T) {
	m := newMaker(187)
	for i := range 300 {
		a, b := m.rendering(1+i%6, 4+i%20), m.rendering(1+i%6, 4+i%20)
		want, _ := askedLeast(a, b)
		before, other := opened(a), opened(b)
		first, _ := least(a, b)
		for which := range 3 {
			one, _ := least(a, b)
			overwrite(one, which)
			if which != 0 && !slices.Equal(one.Kept, want.Kept) || which != 1 && !slices.Equal(one.Gone, want.Gone) || which != 2 && !slices.Equal(one.New, want.New) {
				t.Fatalf("lists of one answer share memory: %s", told(one))
			}
		}
		again, _ := least(a, b)
		if !samePlan(first, want) || !samePlan(again, want) || opened(a) != before || opened(b) != other {
			t.Fatalf("%s, %s, want %s", told(first), told(again), told(want))
		}
	}
}

// TestR4NothingKept overwrites what was handed in: neither an earlier nor a later answer changes.
func TestR4NothingKept(t *testing.T) {
	m := newMaker(188)
	for range 200 {
		a, b := m.rendering(6, 20), m.rendering(6, 20)
		want, _ := askedLeast(a, b)
		given, others := copied(a), copied(b)
		plan, _ := least(given, others)
		spoil(given)
		spoil(others)
		again, code := least(a, b)
		if code != api.OK || !samePlan(plan, want) || !samePlan(again, want) {
			t.Fatalf("%s, %s, want %s", told(plan), told(again), told(want))
		}
	}
}

// TestR5NothingKept: what was asked ahead, faults among it, does not matter.
func TestR5NothingKept(t *testing.T) {
	a, b := fine(), written("0 <p b=2>; 4 y; 9 <i>|5 1 a; 6 a")
	want, _ := askedLeast(a, b)
	for _, one := range slips() {
		bad := fine()
		one.wrong(&bad)
		least(bad, b)
		least(a, bad)
		if plan, code := least(a, b); code != api.OK || !samePlan(plan, want) {
			t.Fatalf("%s, %d behind %s, want %s", told(plan), code, one.name, told(want))
		}
	}
}

// TestR5Goroutines: calls at one time, with the same renderings, answer as calls one by one.
func TestR5Goroutines(t *testing.T) {
	m := newMaker(189)
	a, b := m.rendering(9, 60), m.rendering(9, 60)
	want, _ := askedLeast(a, b)
	var group sync.WaitGroup
	for range 8 {
		group.Go(func() {
			for range 200 {
				if plan, code := least(a, b); code != api.OK || !samePlan(plan, want) {
					t.Errorf("%s, %d", told(plan), code)
				}
			}
		})
	}
	group.Wait()
}
