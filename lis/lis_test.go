package lis

import (
	"math"
	"math/rand"
	"slices"
	"strconv"
	"strings"
	"sync"
	"testing"
	"time"

	"stencil/api"
)

func num(n int) api.Key { return api.Key{Kind: api.KInt, Int: n} }

func str(s string) api.Key { return api.Key{Kind: api.KStr, Str: s} }

// keys are texts, cut at spaces; a word that begins with # is an integer.
func keys(s string) []api.Key {
	var out []api.Key
	for _, word := range strings.Fields(s) {
		if n, err := strconv.Atoi(strings.TrimPrefix(word, "#")); err == nil && word[0] == '#' {
			out = append(out, num(n))
		} else {
			out = append(out, str(word))
		}
	}
	return out
}

func rising(xs []int) bool {
	for i := 1; i < len(xs); i++ {
		if xs[i-1] >= xs[i] {
			return false
		}
	}
	return true
}

func pick(xs []int, places []int) []int {
	var out []int
	for _, at := range places {
		out = append(out, xs[at])
	}
	return out
}

// askedLongest tries all subsequences of xs.
func askedLongest(xs []int) []int {
	var best []int
	for set := range 1 << len(xs) {
		var places []int
		for i := range xs {
			if set>>i&1 == 1 {
				places = append(places, i)
			}
		}
		if len(places) < len(best) || !rising(pick(xs, places)) {
			continue
		}
		if len(places) > len(best) || slices.Compare(places, best) < 0 {
			best = places
		}
	}
	return best
}

// askedOfMany is for lists that are too long to try all: of each place the length of the longest that begins there, found by
// looking at all behind it; then from the left the first that leaves enough.
func askedOfMany(xs []int) []int {
	left := make([]int, len(xs))
	longest := 0
	for i := len(xs) - 1; i >= 0; i-- {
		for j := i + 1; j < len(xs); j++ {
			if xs[j] > xs[i] {
				left[i] = max(left[i], left[j])
			}
		}
		left[i]++
		longest = max(longest, left[i])
	}
	var best []int
	for i := range xs {
		if left[i] == longest-len(best) && (len(best) == 0 || xs[i] > xs[best[len(best)-1]]) {
			best = append(best, i)
		}
	}
	return best
}

// askedMoves is what P9.2 says, each key held against each.
func askedMoves(olds, news []api.Key) (int, int, api.Errno) {
	for _, list := range [][]api.Key{olds, news} {
		for i := range list {
			for j := range i {
				if list[i] == list[j] {
					return 0, 0, api.ErrLisTwice
				}
			}
		}
	}
	var row []int
	for _, fresh := range news {
		for at, old := range olds {
			if fresh == old {
				row = append(row, at)
			}
		}
	}
	return len(row), len(row) - len(askedOfMany(row)), api.OK
}

// lists yields every list of at most most elements out of the choices, the empty one first.
func lists[T any](most int, choices []T, each func([]T)) {
	var grow func(list []T)
	grow = func(list []T) {
		each(list)
		if len(list) == most {
			return
		}
		for _, one := range choices {
			grow(append(slices.Clip(list), one))
		}
	}
	grow(nil)
}

// rows yields every row of the numbers 0 to n - 1.
func rows(n int, each func([]int)) {
	row := make([]int, n)
	for i := range row {
		row[i] = i
	}
	var swap func(at int)
	swap = func(at int) {
		if at == n {
			each(row)
			return
		}
		for i := at; i < n; i++ {
			row[at], row[i] = row[i], row[at]
			swap(at + 1)
			row[at], row[i] = row[i], row[at]
		}
	}
	swap(0)
}

func wantLongest(t *testing.T, xs, want []int) {
	t.Helper()
	if got := Longest(xs); !slices.Equal(got, want) {
		t.Fatalf("Longest(%v) = %v, want %v", xs, got, want)
	}
}

func wantMoves(t *testing.T, olds, news []api.Key, kept, moved int, code api.Errno) {
	t.Helper()
	if k, m, c := Moves(olds, news); k != kept || m != moved || c != code {
		t.Fatalf("Moves(%v, %v) = %d, %d, %d, want %d, %d, %d", olds, news, k, m, c, kept, moved, code)
	}
}

func TestP9_1Table(t *testing.T) {
	for _, c := range []struct{ xs, want []int }{
		{[]int{3, 1, 2}, []int{1, 2}},
		{[]int{2, 2}, []int{0}},
		{nil, nil},
		{[]int{}, nil},
		{[]int{5, 1, 6, 2}, []int{0, 2}},
		{[]int{7}, []int{0}},
		{[]int{-7}, []int{0}},
		{[]int{0}, []int{0}},
		{[]int{1, 2, 3}, []int{0, 1, 2}},
		{[]int{3, 2, 1}, []int{0}},
		{[]int{4, 4, 4, 4}, []int{0}},
		{[]int{1, 1, 2, 2}, []int{0, 2}},
		{[]int{2, 1, 2, 1}, []int{1, 2}},
		{[]int{2, 1, 3, 0, 4}, []int{0, 2, 4}},
		{[]int{5, 6, 1, 2}, []int{0, 1}},
		{[]int{1, 9, 2, 3, 8}, []int{0, 2, 3, 4}},
		{[]int{3, 9, 1, 2, 4}, []int{2, 3, 4}},
		{[]int{4, 9, 1, 5, 2, 6, 3}, []int{0, 3, 5}},
		{[]int{0, 8, 4, 12, 2, 10, 6, 14, 1, 9, 5, 13, 3, 11, 7, 15}, []int{0, 2, 6, 9, 11, 15}},
	} {
		wantLongest(t, c.xs, c.want)
	}
}

func TestP9_1GreatNumbers(t *testing.T) {
	for _, c := range []struct{ xs, want []int }{
		{[]int{math.MinInt}, []int{0}},
		{[]int{math.MaxInt}, []int{0}},
		{[]int{math.MinInt, math.MaxInt}, []int{0, 1}},
		{[]int{math.MaxInt, math.MinInt}, []int{0}},
		{[]int{math.MinInt, math.MinInt}, []int{0}},
		{[]int{math.MaxInt, math.MaxInt}, []int{0}},
		{[]int{math.MinInt, 0, math.MaxInt}, []int{0, 1, 2}},
		{[]int{math.MaxInt, math.MinInt, 0}, []int{1, 2}},
		{[]int{math.MinInt, math.MinInt + 1, math.MaxInt - 1, math.MaxInt}, []int{0, 1, 2, 3}},
		{[]int{math.MaxInt - 1, math.MaxInt, math.MinInt, math.MinInt + 1}, []int{0, 1}},
		{[]int{1 << 32, 1, 1<<32 + 1, 2}, []int{0, 2}},
	} {
		wantLongest(t, c.xs, c.want)
	}
}

func TestP9_1EveryShortList(t *testing.T) {
	try := func(xs []int) {
		wantLongest(t, xs, askedLongest(xs))
		wantLongest(t, xs, askedOfMany(xs))
	}
	lists(7, []int{0, 1, 2}, try)
	lists(6, []int{-2, -1, 0, 1, 2}, try)
	lists(5, []int{math.MinInt, math.MinInt + 1, -1, 0, math.MaxInt - 1, math.MaxInt}, try)
	for n := range 8 {
		rows(n, try)
	}
}

func TestP9_1LongerLists(t *testing.T) {
	r := rand.New(rand.NewSource(1))
	for n := range 400 {
		few, many, row := make([]int, n), make([]int, n), r.Perm(n)
		for i := range n {
			few[i] = r.Intn(2 + n/8)
			many[i] = int(r.Uint64())
		}
		for _, xs := range [][]int{few, many, row} {
			wantLongest(t, xs, askedOfMany(xs))
		}
	}
}

func TestP9_2Table(t *testing.T) {
	for _, c := range []struct {
		olds, news  string
		kept, moved int
		code        api.Errno
	}{
		{"a b c", "c a b", 3, 1, api.OK},
		{"a b", "b c", 1, 0, api.OK},
		{"a a", "b", 0, 0, api.ErrLisTwice},
		{"b", "a a", 0, 0, api.ErrLisTwice},
		{"a a", "b b", 0, 0, api.ErrLisTwice},
		{"a a", "a a", 0, 0, api.ErrLisTwice},
		{"a a", "", 0, 0, api.ErrLisTwice},
		{"", "a a", 0, 0, api.ErrLisTwice},
		{"a b c a", "a b c", 0, 0, api.ErrLisTwice},
		{"a b c", "c b a c", 0, 0, api.ErrLisTwice},
		{"#1 #2 #1", "#1", 0, 0, api.ErrLisTwice},
		{"#1", "#1 #2 #2", 0, 0, api.ErrLisTwice},
		{"", "", 0, 0, api.OK},
		{"a", "", 0, 0, api.OK},
		{"", "a", 0, 0, api.OK},
		{"a", "a", 1, 0, api.OK},
		{"a", "b", 0, 0, api.OK},
		{"a b c d", "d c b a", 4, 3, api.OK},
		{"a b c", "a b c", 3, 0, api.OK},
		{"a b c", "x c y a z", 2, 1, api.OK},
		{"a b c d e", "e a c", 3, 1, api.OK},
		{"a x b y c", "a b c", 3, 0, api.OK},
		{"a b c", "b c a", 3, 1, api.OK},
		{"#1 #2 #3", "#3 #1 #2", 3, 1, api.OK},
		{"#1 a #2", "#2 a #1", 3, 2, api.OK},
		{"#1", "1", 0, 0, api.OK},
		{"#1 1", "1 #1", 2, 1, api.OK},
		{"#0 #-1", "#-1 #0", 2, 1, api.OK},
	} {
		wantMoves(t, keys(c.olds), keys(c.news), c.kept, c.moved, c.code)
	}
	wantMoves(t, nil, nil, 0, 0, api.OK)
	wantMoves(t, []api.Key{}, nil, 0, 0, api.OK)
	wantMoves(t, nil, []api.Key{}, 0, 0, api.OK)
}

// Keys are structs that are compared by ==: each of their fields counts, of a kind that keys don't have too.
func TestP9_2KeysAreStructs(t *testing.T) {
	apart := []api.Key{
		{}, num(0), str(""), num(1), num(-1), str("1"), str("0"), str("a"), str("A"), str("a "), str("a\x00"), str("\xff"),
		num(math.MinInt), num(math.MaxInt), num(1 << 32), str(strings.Repeat("a", 5000)), str(strings.Repeat("a", 5001)),
		{Kind: api.KNull}, {Kind: -1}, {Kind: 9}, {Kind: 9, Int: 1}, {Kind: api.KInt, Int: 1, Str: "1"}, {Kind: api.KStr, Int: 1, Str: "1"},
	}
	back := slices.Clone(apart)
	slices.Reverse(back)
	wantMoves(t, apart, apart, len(apart), 0, api.OK)
	wantMoves(t, apart, back, len(apart), len(apart)-1, api.OK)
	for i, one := range apart {
		others := slices.Delete(slices.Clone(apart), i, i+1)
		wantMoves(t, []api.Key{one}, others, 0, 0, api.OK)
		wantMoves(t, []api.Key{one}, apart, 1, 0, api.OK)
		wantMoves(t, append(slices.Clone(apart), one), nil, 0, 0, api.ErrLisTwice)
		wantMoves(t, others, append(slices.Clone(apart), one), 0, 0, api.ErrLisTwice)
	}
}

func TestP9_2EveryPairOfShortLists(t *testing.T) {
	var all [][]api.Key
	lists(4, keys("a #1 1 b"), func(list []api.Key) { all = append(all, list) })
	for _, olds := range all {
		for _, news := range all {
			kept, moved, code := askedMoves(olds, news)
			wantMoves(t, olds, news, kept, moved, code)
		}
	}
}

// some is n keys, no two the same, out of 3n/2 keys of both kinds.
func some(r *rand.Rand, n int) []api.Key {
	var out []api.Key
	for _, at := range r.Perm(n + n/2)[:n] {
		if at%2 == 0 {
			out = append(out, num(at))
		} else {
			out = append(out, str(strconv.Itoa(at)))
		}
	}
	return out
}

func TestP9_2LongerLists(t *testing.T) {
	r := rand.New(rand.NewSource(2))
	for n := range 200 {
		olds, news := some(r, n), some(r, n)
		kept, moved, code := askedMoves(olds, news)
		wantMoves(t, olds, news, kept, moved, code)
		if n == 0 {
			continue
		}
		twice := append(slices.Clone(news), news[r.Intn(n)])
		wantMoves(t, olds, twice, 0, 0, api.ErrLisTwice)
		wantMoves(t, twice, olds, 0, 0, api.ErrLisTwice)
	}
}

// longestOf is the length alone, of numbers from 0 to less than most: the best that ends with each number so far.
func longestOf(xs []int, most int) int {
	best := make([]int, most)
	for _, x := range xs {
		best[x] = max(best[x], 1+slices.Max(append([]int{0}, best[:x]...)))
	}
	return slices.Max(append([]int{0}, best...))
}

func TestP9_3NoneIsLonger(t *testing.T) {
	r := rand.New(rand.NewSource(3))
	for n := range 300 {
		xs := make([]int, n)
		for i := range xs {
			xs[i] = r.Intn(40)
		}
		places := Longest(xs)
		if !rising(places) || !rising(pick(xs, places)) {
			t.Fatalf("Longest(%v) = %v does not rise", xs, places)
		}
		if want := longestOf(xs, 40); len(places) != want {
			t.Fatalf("Longest(%v): %d places, there are %d", xs, len(places), want)
		}
	}
}

func TestP9_3RisingLists(t *testing.T) {
	for n := range 200 {
		xs, all := make([]int, n), make([]int, n)
		for i := range xs {
			xs[i], all[i] = math.MinInt+i*i*i, i
		}
		wantLongest(t, xs, all)
		slices.Reverse(xs)
		if n > 0 {
			wantLongest(t, xs, []int{0})
		}
	}
}

func TestP9_3TheSameRow(t *testing.T) {
	r := rand.New(rand.NewSource(4))
	for n := range 100 {
		list := some(r, n)
		wantMoves(t, list, list, n, 0, api.OK)
		fewer := slices.DeleteFunc(slices.Clone(list), func(api.Key) bool { return r.Intn(3) == 0 })
		wantMoves(t, list, fewer, len(fewer), 0, api.OK)
		wantMoves(t, fewer, list, len(fewer), 0, api.OK)
	}
}

func TestP9_3NoneMovedJustInOneRow(t *testing.T) {
	both := func(list, other []api.Key) []api.Key {
		return slices.DeleteFunc(slices.Clone(list), func(k api.Key) bool { return !slices.Contains(other, k) })
	}
	rows(6, func(row []int) {
		olds := keys("a b #1 c #2 d")
		var news []api.Key
		for i, at := range row {
			news = append(news, olds[at], num(100+i))
		}
		for gone := range olds {
			left := slices.Delete(slices.Clone(olds), 0, gone)
			kept, moved, code := Moves(left, news)
			one := slices.Equal(both(left, news), both(news, left))
			if kept != len(left) || code != api.OK || (moved == 0) != one || moved < 0 || moved >= kept {
				t.Fatalf("Moves(%v, %v) = %d, %d, %d", left, news, kept, moved, code)
			}
		}
	})
}

// roomy is list with spare room behind it, filled with one.
func roomy[T any](list []T, one T) []T {
	whole := slices.Clone(list)
	for range 5 {
		whole = append(whole, one)
	}
	return whole[:len(list)]
}

func TestR4ArgumentsAreNotChanged(t *testing.T) {
	lists(5, []int{0, 1, 2}, func(list []int) {
		xs := roomy(list, 7)
		Longest(xs)
		if !slices.Equal(xs, list) || !slices.Equal(xs[:len(xs)+5][len(xs):], []int{7, 7, 7, 7, 7}) {
			t.Fatalf("Longest changed %v to %v", list, xs[:len(xs)+5])
		}
	})
	spare := slices.Repeat([]api.Key{str("spare")}, 5)
	for _, c := range [][2]string{{"a b c", "c a b"}, {"a a", "b"}, {"b #1", "a a"}, {"", "a"}, {"a", ""}, {"a #1 b", "x b y"}} {
		olds, news := roomy(keys(c[0]), spare[0]), roomy(keys(c[1]), spare[0])
		Moves(olds, news)
		for i, list := range [][]api.Key{olds, news} {
			if !slices.Equal(list, keys(c[i])) || !slices.Equal(list[:len(list)+5][len(list):], spare) {
				t.Fatalf("Moves changed %q to %v", c[i], list[:len(list)+5])
			}
		}
	}
}

func TestR4AnswersAreNewMemory(t *testing.T) {
	for _, list := range [][]int{{0}, {0, 1, 2}, {2, 1, 0}, {0, 1, 2, 3, 4, 5, 6, 7}, {3, 1, 2}} {
		xs := slices.Clone(list)
		first, second := Longest(xs), Longest(xs)
		want := slices.Clone(first)
		for i := range second {
			second[i] = -9
		}
		for i := range xs {
			xs[i] = -9
		}
		if !slices.Equal(first, want) {
			t.Fatalf("Longest(%v) = %v became %v", list, want, first)
		}
		for i := range first {
			first[i] = 77
		}
		for range 3 {
			first = append(first, 77)
		}
		if slices.Contains(xs, 77) || slices.Contains(second, 77) {
			t.Fatalf("Longest(%v) shares its answer", list)
		}
	}
}

func TestR5AnswersHangOnArgumentsAlone(t *testing.T) {
	xs, olds, news := []int{2, 1, 3, 0, 4}, keys("a b c #1"), keys("#1 c d a")
	want := Longest(xs)
	for range 20 {
		Longest([]int{9, 8, 7, 6, 5, 4})
		Moves(keys("a a"), olds)
		Moves(news, olds)
		wantLongest(t, xs, want)
		wantMoves(t, olds, news, 3, 2, api.OK)
	}
}

func TestR5SeveralGoroutines(t *testing.T) {
	xs, olds, news := []int{4, 9, 1, 5, 2, 6, 3}, keys("a b c #1"), keys("#1 c d a")
	var group sync.WaitGroup
	for range 8 {
		group.Go(func() {
			for range 200 {
				if !slices.Equal(Longest(xs), []int{0, 3, 5}) {
					t.Error("Longest")
				}
				if kept, moved, code := Moves(olds, news); kept != 3 || moved != 2 || code != api.OK {
					t.Error("Moves")
				}
			}
		})
	}
	group.Wait()
}

func TestR1LongListsEndSoon(t *testing.T) {
	const n = 400_000
	began := time.Now()
	up, down, same, saw := make([]int, n), make([]int, n), make([]int, n), make([]int, n)
	olds, news := make([]api.Key, n), make([]api.Key, n)
	for i := range n {
		up[i], down[i], saw[i] = i, -i, i%2*n+i/2
		olds[i], news[n-1-i] = num(i), num(i)
	}
	for _, c := range []struct {
		xs   []int
		want int
	}{{up, n}, {down, 1}, {same, 1}, {saw, n/2 + 1}} {
		if got := len(Longest(c.xs)); got != c.want {
			t.Errorf("%d places, want %d", got, c.want)
		}
	}
	wantMoves(t, olds, olds, n, 0, api.OK)
	if kept, moved, code := Moves(olds, news); kept != n || moved != n-1 || code != api.OK {
		t.Errorf("Moves of a falling list: %d, %d, %d", kept, moved, code)
	}
	if spent := time.Since(began); spent > 20*time.Second {
		t.Errorf("%v for lists of %d", spent, n)
	}
}
