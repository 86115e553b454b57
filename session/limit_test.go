package session

import (
	"fmt"
	"slices"
	"strings"
	"testing"
	"time"

	"stencil/api"
)

// TestT1Rooms: of each room and each state the codes, up to the room in which all fit.
func TestT1Rooms(t *testing.T) {
	t.Parallel()
	met := map[api.Errno]int{}
	for room := 1; room < 16; room++ {
		h := newHerd(t, `a<for each="x" :in="l" :key="x"><b>{{ x }}</b></for><i><u/>x</i><if :test="len(l) == 2"><s/></if>`, room)
		for _, list := range append(arrangements(3), "0, 0", "null") {
			d := `{"l": [` + list + `]}`
			met[h.take(t, d)]++
			if list == "1" {
				met[h.mount(t, d)]++
				met[h.unmount(t)]++
				met[h.update(t, d)]++
				met[h.mount(t, d)]++
			}
		}
	}
	expectMet(t, met, 10, api.OK, api.ErrVmFull, api.ErrVmKey, api.ErrVmMounted, api.ErrVmBare, api.ErrEvalType)
}

// TestT1Large: as many nodes as may be, and more: which is asked in preorder, ahead of all else of a node, and ahead of the room.
func TestT1Large(t *testing.T) {
	t.Parallel()
	s := `x<for each="x" :in="l" :key="x"><b>{{ x }}</b></for><for each="x" :in="m" :key="x"><i/></for>`
	state := func(l, m int, more string) string {
		return `{"l": ` + numbers(1, l, 1) + `, "m": ` + numbers(1, m, 1) + more + `}`
	}
	h := newHerd(t, s, api.MaxNodes+1)
	for _, row := range []struct {
		l, m int
		code api.Errno
	}{{2047, 1, api.OK}, {2047, 2, api.ErrVmLarge}, {2048, 0, api.ErrVmLarge}, {0, 4095, api.OK}, {0, 4096, api.ErrVmLarge}, {2, 4091, api.OK}, {2, 4092, api.ErrVmLarge}, {3000, 3000, api.ErrVmLarge}, {0, 0, api.OK}, {2047, 1, api.OK}} {
		if code := h.take(t, state(row.l, row.m, "")); code != row.code {
			t.Errorf("%d, %d: %d, want %d", row.l, row.m, code, row.code)
		}
	}
	h = newHerd(t, s, api.MaxNodes)
	for _, row := range []struct {
		l, m int
		code api.Errno
	}{{2047, 1, api.ErrVmFull}, {2047, 2, api.ErrVmLarge}, {2047, 0, api.OK}, {2047, 1, api.ErrVmFull}, {0, 4094, api.OK}} {
		if code := h.take(t, state(row.l, row.m, "")); code != row.code {
			t.Errorf("%d, %d: %d, want %d", row.l, row.m, code, row.code)
		}
	}
	// What comes ahead of the node that is too much is met ahead of it, what comes behind is not met.
	h = newHerd(t, `{{ v }}`+s+`{{ w }}`, 20)
	for _, row := range []struct {
		m    int
		more string
		code api.Errno
	}{{4096, ``, api.ErrEvalPath}, {4096, `, "v": 1`, api.ErrVmLarge}, {4095, `, "v": 1`, api.ErrVmLarge}, {4094, `, "v": 1`, api.ErrEvalPath}, {4094, `, "v": 1, "w": []`, api.ErrEvalType}, {4094, `, "v": 1, "w": 1`, api.ErrVmFull}, {18, `, "v": 1, "w": 1`, api.ErrVmFull}, {17, `, "v": 1, "w": 1`, api.OK}} {
		if code := h.take(t, state(0, row.m, row.more)); code != row.code {
			t.Errorf("%d%s: %d, want %d", row.m, row.more, code, row.code)
		}
	}
}

// TestT1Deep: elements as deep as may be, through components, with a text inside; loops in loops; values on the stack.
func TestT1Deep(t *testing.T) {
	t.Parallel()
	def := func(name string, k int) string {
		return `<def name="` + name + `">` + nested(k, "p", "<slot/>") + `</def>`
	}
	h := newHerd(t, def("d", 30)+def("e", 3)+nested(29, "p", `<d><e><b :a="v">{{ v }}</b></e></d>`), 70)
	h.take(t, `{"v": 1}`)
	h.take(t, `{"v": []}`)
	h.take(t, `{"v": "x"}`)
	h.take(t, `{}`)
	h.unmount(t)
	loops := "{{ x }}"
	for range api.MaxLoops {
		loops = `<for each="x" at="i" :in="x" :key="i"><p :a="i">` + loops + `</p></for>`
	}
	h = newHerd(t, strings.Replace(loops, `:in="x"`, `:in="l"`, 1), 200)
	box := func(s string, n int) string { return strings.Repeat("[", n) + s + strings.Repeat("]", n) }
	for _, l := range []string{box(`"ab"`, 8), box(`"ab", "c"`, 8), "[" + box(`"ab"`, 7) + ", []]", "[" + box(`"ab"`, 7) + ", [[], [[]]], [" + box(`"c"`, 6) + ", [], [[], [], []]]]", "[]", box(`1`, 8), box(`"c", "ab"`, 8)} {
		h.take(t, `{"l": `+l+`}`)
	}
	props := ""
	for i := range 8 {
		props += fmt.Sprintf(` p%d="c"`, i)
	}
	s := `<def name="d" props="p0 p1 p2 p3 p4 p5 p6 p7">{{ p0 ~ p7 }}<slot/></def>`
	h = newHerd(t, s+strings.Repeat("<d"+props+">", 7)+`<for each="x" at="i" :in="l" :key="x"><b>{{ i ~ x ~ v }}</b></for>`+strings.Repeat("</d>", 7), 40)
	h.take(t, `{"l": [1, 2], "v": 3}`)
	h.take(t, `{"l": [2, 3], "v": 4}`)
	h.take(t, `{"l": [2, 2], "v": 4}`)
}

// TestT1Wide: templates of as many pieces of one sort as may be.
func TestT1Wide(t *testing.T) {
	t.Parallel()
	attrs, bound := "", ""
	for i := range 2000 {
		attrs += fmt.Sprintf(` a%d="v%d"`, i, i)
		bound += fmt.Sprintf(` b%d="%d"`, i, i)
		if i < 600 {
			bound = strings.Replace(bound, fmt.Sprintf(` b%d="%d"`, i, i), fmt.Sprintf(` :b%d="v"`, i), 1)
		}
	}
	for _, s := range []string{
		strings.Repeat("<p/>", api.MaxCore), strings.Repeat("<p>x</p>", api.MaxCore/3), strings.Repeat("{{ v }}<b/>", api.MaxCore/5), `<p` + attrs + `/>`, `<p` + bound + `/>`, strings.Repeat("x{{ v }}", 800),
		strings.Repeat(`<if :test="v == 1"><p/></if>`, 400), strings.Repeat(`<if :test="v == 1"/><else>x</else>`, 400), strings.Repeat(`<for each="x" :in="l" :key="x"><p>{{ x }}</p></for>`, 350), `<def name="d" props="t">{{ t }}</def>` + strings.Repeat(`<d :t="v"/>`, 500),
		"<b/>" + strings.Repeat("x", api.MaxStr) + "<b/>" + strings.Repeat("é", api.MaxStr/2) + `<i a="` + strings.Repeat("&lt;", api.MaxStr) + `"/>`, strings.Repeat(strings.Repeat("x", 4092)+"<p/>", 16),
	} {
		h := newHerd(t, s, api.MaxRoom)
		for _, d := range []string{`{"v": 1, "l": [1, 2]}`, `{"v": 2, "l": [2, 3, 1]}`, `{"v": [], "l": []}`, `{"v": 1, "l": [3, 3]}`, `{"v": 1, "l": []}`} {
			h.take(t, d)
		}
		h.unmount(t)
	}
}

// TestT1Long: states of as many bytes as may be, of long texts, long lists and many names.
func TestT1Long(t *testing.T) {
	t.Parallel()
	s := `<for each="x" :in="l" :key="x"><p :a="x">{{ v }}</p></for>{{ len(l) }}`
	x := strings.Repeat("x", 4000)
	h := newHerd(t, s, api.MaxRoom)
	var names, texts []string
	for i := range 3000 {
		names = append(names, fmt.Sprintf(`"n%d": %d`, i, i))
	}
	for i := range 15 {
		texts = append(texts, fmt.Sprintf(`"%d%s"`, i, x))
	}
	fill := func(d string) string { return d + strings.Repeat(" ", api.MaxData-len(d)) }
	for _, d := range []string{
		`{"l": ` + numbers(0, 1500, 1) + `, "v": "` + x + `"}`, `{"l": ` + numbers(1499, 1500, -1) + `, "v": "` + x + `y"}`, `{"l": ` + numbers(0, 5000, 1) + `, "v": 1}`, `{"l": [` + strings.Join(texts, ", ") + `], "v": 1}`,
		`{` + strings.Join(names, ", ") + `, "l": [3], "v": ""}`, fill(`{"l": [3, 4], "v": ""}`), fill(`{"l": [3, 4], "v": ""}`) + " ", `{"l": [], "v": ` + strings.Repeat("[", 22) + strings.Repeat("]", 22) + `}`, `{"l": [1], "v": "` + strings.Repeat("\\u00e9", 2048) + `"}`, `{"l": [1], "v": "` + strings.Repeat("\\u00e9", 2048) + `x"}`,
	} {
		h.take(t, d)
	}
	if got := len(h.sessions[0].Html()); got != len(`<p a="1"></p>1`)+2*2048 {
		t.Errorf("%d bytes", got)
	}
}

// spent is the least time that so many calls take.
func spent(n int, call func()) time.Duration {
	least := time.Hour
	for range 5 {
		begun := time.Now()
		for range n {
			call()
		}
		least = min(least, time.Since(begun))
	}
	return least
}

// expectScales holds that what is sixteen times as large takes about sixteen times as long.
func expectScales(t *testing.T, what string, small, large func()) {
	t.Helper()
	short, long := spent(16, small), spent(1, large)
	if long > 8*short+30*time.Millisecond {
		t.Errorf("%s: %v, sixteen of a sixteenth %v", what, long, short)
	}
}

// TestR1Time: how long a call takes, its sizes explain: templates, states, lists that turn round.
func TestR1Time(t *testing.T) {
	t.Parallel()
	must := func(code api.Errno) {
		if code != api.OK {
			panic(code)
		}
	}
	for name, sized := range map[string]func(n int) string{
		"elements": func(n int) string { return strings.Repeat("<p/>", 16*n) }, "texts": func(n int) string { return strings.Repeat("<p>x</p>", 5*n) }, "deep": func(n int) string { return strings.Repeat(nested(30, "p", "{{ v }}"), n/2) },
		"ifs": func(n int) string { return strings.Repeat(`<if :test="v"><b/></if>`, 3*n) }, "uses": func(n int) string {
			return `<def name="d" props="t"><b>{{ t }}<slot/></b></def>` + strings.Repeat(`<d t="x">y</d>`, n)
		},
		"wrong": func(n int) string { return strings.Repeat("<p></p>", 30*n) + "</p>" }, "blanks": func(n int) string { return "<p" + strings.Repeat(" ", 250*n) + "/>" }, "long": func(n int) string { return strings.Repeat(strings.Repeat("x", 250)+"<b/>", n) },
	} {
		small, large := sized(16), sized(256)
		expectScales(t, name, func() { New(small, 9, settings()[7]) }, func() { New(large, 9, settings()[7]) })
	}
	s := `<for each="x" :in="l" :key="x"><p>{{ x }}</p></for>`
	for name, sized := range map[string]func(n int) []string{
		"the same": func(n int) []string { return []string{numbers(0, n, 1), numbers(0, n, 1)} }, "turned": func(n int) []string { return []string{numbers(0, n, 1), numbers(n-1, n, -1)} },
		"others": func(n int) []string { return []string{numbers(0, n, 1), numbers(n, n, 1)} }, "all and none": func(n int) []string { return []string{numbers(0, n, 1), "[]"} }, "halves": func(n int) []string { return []string{numbers(0, n, 1), numbers(n/2, n, 1)} },
	} {
		run := func(n int) func() {
			x := started(t, s, api.MaxRoom, settings()[7])
			must(x.Mount([]byte(`{"l": []}`)))
			states := sized(n)
			return func() {
				must(x.Update([]byte(`{"l": ` + states[0] + `}`)))
				must(x.Update([]byte(`{"l": ` + states[1] + `}`)))
				x.Html()
			}
		}
		expectScales(t, name, run(120), run(1920))
	}
}

// TestR1Largest: what is as large as may be, in each of its sizes at once, ends soon.
func TestR1Largest(t *testing.T) {
	t.Parallel()
	s := `<for each="x" at="i" :in="l" :key="x"><p :a="i" b="c">{{ x }}</p></for>` + strings.Repeat("<p>y</p>", 40) + strings.Repeat(`<if :test="v"><b/></if>`, 40)
	begun := time.Now()
	for _, x := range all(t, s, api.MaxRoom) {
		for i := range 6 {
			more := []int{1, -1}[i%2]
			d := []byte(`{"v": ` + []string{"true", "false"}[i%2] + `, "l": ` + numbers(2500*(1-more), 1980, more) + `}`)
			if i == 0 && x.Mount(d) != api.OK || i > 0 && x.Update(d) != api.OK {
				t.Fatal("not taken")
			}
			if html := x.Html(); strings.Count(html, "<p ") != 1980 || len(x.Cells()) != api.MaxRoom {
				t.Fatal(len(html))
			}
		}
		if x.Unmount() != api.OK || len(x.Free()) != api.MaxRoom-1 {
			t.Fatal("not unmounted")
		}
	}
	if took := time.Since(begun); took > 20*time.Second {
		t.Errorf("it took %v", took)
	}
}

// TestT4Orders: long lists in every sort of order keep their handles, and move no more than must be moved.
func TestT4Orders(t *testing.T) {
	t.Parallel()
	m := newMaker(260)
	h := newHerd(t, `<ul><for each="x" :in="l" :key="x"><li>{{ x }}</li></for></ul>`, 2000)
	order := m.Perm(600)
	for i := range 12 {
		switch i % 4 {
		case 0:
			slices.Reverse(order)
		case 1:
			order = append(order[100:], order[:100]...)
		case 2:
			order = m.Perm(600 + 20*i)
		case 3:
			slices.Sort(order)
		}
		if code := h.take(t, `{"l": `+strings.ReplaceAll(fmt.Sprint(order), " ", ",")+`}`); code != api.OK {
			t.Fatal(code)
		}
	}
	if n := h.asked.counts; n.Moved < 2000 {
		t.Errorf("%+v", n)
	}
}
