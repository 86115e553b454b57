package session

import (
	"slices"
	"strings"
	"testing"

	"stencil/api"
	"stencil/data"
	"stencil/render"
)

// row shows a record, in a list item.
const row = `<li :a="x.v" c="1" :d="x.b">{{ x.v }}<if :test="x.b"><i>{{ x.w }}</i></if></li>`

// pages are templates of each kind that are asked with a state of a record.
func pages() []string {
	loop := `<for each="x" :in="l" :key="x.k">` + row + `</for>`
	box := `<def name="d-a" props="r"><u><slot/></u><for each="e" :in="r" :key="e.k"><i><slot name="in" :x="e">{{ e.v }}</slot></i></for></def>`
	list := `<def name="d-b" props="r t"><p :a="t"><for each="e" at="n" :in="r" :key="e.k"><q :b="n"><slot :x="e" :n="n"/></q></for></p></def>`
	return []string{
		``, `<p a="1">x<b/></p>`, `{{ v }}<p :a="v" :b="b" c="1"/>{{ w }}`, `a{{ v }}b{{ w }}{{ b }}`, loop, `a<ul>` + loop + `</ul>b`, loop + `<p/>` + strings.ReplaceAll(loop, `"l"`, `"m"`),
		`<if :test="b">` + loop + `</if><else><p>` + loop + `</p></else>`, `<p><if :test="b">x<i>y<b/></i></if><else><i/>{{ v }}</else><u/></p>`, `<if :test="b">a</if>b<if :test="!b"><i/><if :test="len(l) > 1">{{ v }}</if></if><else/>`,
		`<for each="y" :in="m" :key="y.k"><p :e="y.w">{{ y.v }}<for each="x" :in="y.l" :key="x.k">` + row + `</for><if :test="y.b">z</if></p></for>`,
		`<for each="z" :in="l" :key="z.k"><p><for each="y" :in="z.l" :key="y.k"><q><for each="x" :in="y.l" :key="x.k">` + row + `</for></q></for></p></for>`,
		box + `<d-a :r="l"><fill>{{ v }}</fill><fill name="in" let="x">` + row + `</fill></d-a><d-a :r="m"/>`, box + `<if :test="b"><d-a :r="l">{{ v }}<b/></d-a></if><else><d-a :r="m"><fill name="in"/></d-a></else>`,
		box + list + `<d-b :r="m" t="c"><fill let="n x"><d-a :r="x.l">{{ n }}</d-a></fill></d-b>`, list + `<for each="x" :in="l" :key="x.k"><b><d-b :r="x.m" :t="x.v"><fill let="x"><if :test="x.b">` + row + `</if></fill></d-b></b></for>`,
		`<for each="x" at="i" :in="l" :key="i"><p :n="i">a{{ x.k }}b{{ x.v }}{{ i }}<i c="1">z</i></p></for>`, `{{ v }}<for each="x" :in="m" :key="x.k"><i c="1">z<b/></i></for>{{ w }}`,
	}
}

// TestT1Pages: random calls of the sessions of such templates, with states that fit, states that do not, and bytes that are none.
func TestT1Pages(t *testing.T) {
	t.Parallel()
	m, met, counts := newMaker(252), map[api.Errno]int{}, api.Counts{}
	for _, s := range pages() {
		for i := range 4 {
			m.off = i % 3
			h := newHerd(t, s, []int{20, 60, 150, 400}[i])
			m.run(t, h, 12, func() string { return m.state(max(1, i)) }, met)
			counts = sum(counts, h.asked.counts)
		}
	}
	expectMet(t, met, 5, api.ErrDataForm, api.ErrEvalType, api.ErrVmKey, api.ErrVmFull, api.ErrVmBare, api.ErrVmMounted)
	if met[api.OK] < 400 || least(counts) < 100 {
		t.Errorf("%v, %+v", met, counts)
	}
}

// TestT1Told: templates of each kind, and what their states are shown as, step by step.
func TestT1Told(t *testing.T) {
	t.Parallel()
	for _, row := range []struct {
		s     string
		steps []string // each a state and its Html, in turn
	}{
		{`<p>x</p>`, []string{`null`, `<p>x</p>`, `7`, `<p>x</p>`}},
		{`<p :a="v" b="c">{{ v }}!</p>`, []string{`{"v":1}`, `<p a="1" b="c">1!</p>`, `{"v":null}`, `<p b="c">!</p>`, `{"v":true}`, `<p a="" b="c">true!</p>`, `{"v":false}`, `<p b="c">false!</p>`, `{"v":"<"}`, `<p a="&lt;" b="c">&lt;!</p>`}},
		{`<if :test="b">x<i/></if> <else>{{ v }}</else>`, []string{`{"b":true}`, `x<i></i>`, `{"b":false,"v":2}`, `2`, `{"b":false,"v":3}`, `3`, `{"b":true,"v":[]}`, `x<i></i>`}},
		{`a<if :test="b"><i/></if>c`, []string{`{"b":true}`, `a<i></i>c`, `{"b":false}`, `ac`}},
		{`<for each="x" at="i" :in="l" :key="x"> <li>{{ i }}:{{ x }}</li> </for>`, []string{`{"l":[]}`, ``, `{"l":["a",1,"1"]}`, `<li>0:a</li><li>1:1</li><li>2:1</li>`, `{"l":["1","a"]}`, `<li>0:1</li><li>1:a</li>`}},
		{`<for each="y" :in="l" :key="y.k"><p><for each="x" :in="y.l" :key="x"><b>{{ y.k ~ x }}</b></for></p></for>`, []string{`{"l":[{"k":"a","l":[1,2]},{"k":"b","l":[]}]}`, `<p><b>a1</b><b>a2</b></p><p></p>`, `{"l":[{"k":"b","l":[2]},{"k":"a","l":[2,1]}]}`, `<p><b>b2</b></p><p><b>a2</b><b>a1</b></p>`}},
		{`<def name="d" props="t u"><b :c="u">{{ t }}<slot>none</slot></b></def><d t="1" :u="v"/><d u="" :t="v">{{ v }}</d><d t="" u=""><fill/></d>`, []string{`{"v":7}`, `<b c="7">1none</b><b c="">77</b><b c=""></b>`, `{"v":null}`, `<b>1none</b><b c=""></b><b c=""></b>`}},
		{`<def name="d" props="l"><for each="x" :in="l" :key="x"><li><slot name="s" :x="x" :y="x ~ '!'"/></li></for></def><d :l="m"><fill name="s" let="y">{{ y }}{{ x }}</fill></d>`, []string{`{"m":[1,2],"x":"s"}`, `<li>1!s</li><li>2!s</li>`, `{"m":[2,1],"x":null}`, `<li>2!</li><li>1!</li>`}},
		{`<def name="d"><i><slot/></i></def><def name="e" props="t"><d>{{ t }}<slot/></d></def><e t="x"><d>{{ v }}</d></e>`, []string{`{"v":1}`, `<i>x<i>1</i></i>`, `{"v":"y"}`, `<i>x<i>y</i></i>`}},
		{`<def name="d" props="x"><slot :x="x + 1"/></def><for each="x" :in="l" :key="x"><p>{{ x }}<d :x="x * 10"><fill let="x">,{{ x }}</fill></d>{{ x }}</p></for>{{ x }}`, []string{`{"l":[1,2],"x":"z"}`, `<p>1,111</p><p>2,212</p>z`}},
		{`<if :test="len(l) > 0"><ul><for each="x" :in="l" :key="x"><li><if :test="x == v"><b>{{ x }}</b></if><else>{{ x }}</else></li></for></ul></if><else><p>none</p></else>`, []string{`{"l":[],"v":1}`, `<p>none</p>`, `{"l":[1,2],"v":1}`, `<ul><li><b>1</b></li><li>2</li></ul>`, `{"l":[2,1],"v":2}`, `<ul><li><b>2</b></li><li>1</li></ul>`, `{"l":[],"v":2}`, `<p>none</p>`}},
	} {
		h := newHerd(t, row.s, 40)
		for i := 0; i < len(row.steps); i += 2 {
			if code := h.take(t, row.steps[i]); code != api.OK || h.sessions[0].Html() != row.steps[i+1] {
				t.Errorf("%s: %s: %d, %s, want %s", row.s, row.steps[i], code, h.sessions[0].Html(), row.steps[i+1])
			}
		}
	}
}

// TestT2Refused: refused steps of every sort ahead of, between and behind steps that are taken: the arena is as it was, and as one is to which they were never given.
func TestT2Refused(t *testing.T) {
	t.Parallel()
	m := newMaker(253)
	for _, s := range pages() {
		for i := range 4 {
			with, without := started(t, s, 50+20*i, settings()[2*i]), started(t, s, 50+20*i, settings()[7-i])
			refused, taken := 0, 0
			for range 25 {
				before := pictureOf(with)
				m.off = m.Intn(3)
				c := told{call: "update", d: m.state(1)}
				if n := m.Intn(10); n == 0 {
					c.call = "unmount"
				} else if n < 3 || n < 8 && !with.mounted {
					c.call = "mount"
				}
				if c.of(with) != api.OK {
					refused++
					if !pictureOf(with).same(before) {
						t.Fatalf("%s %s was refused, and changed something: %s", c.call, cut(c.d), s)
					}
					continue
				}
				taken++
				if c.of(without) != api.OK || !pictureOf(with).same(pictureOf(without)) {
					t.Fatalf("%s %s: %s: %s, want %s", c.call, cut(c.d), s, cut(pictureOf(with)), cut(pictureOf(without)))
				}
			}
			if refused < 3 || taken < 3 {
				t.Errorf("%d were refused, %d taken: %s", refused, taken, s)
			}
		}
	}
}

// handles are those of the nodes under a node, in preorder, with what they hold.
func handles(cells []api.Cell, node int) []int {
	var out []int
	for kid := cells[node].First; kid != -1; kid = cells[kid].Next {
		out = append(append(out, kid), handles(cells, kid)...)
	}
	return out
}

// holding are the handles of the nodes of a tag, or, of the empty one, of the texts, in preorder.
func holding(x *Session, tag string) []int {
	cells := x.Cells()
	return slices.DeleteFunc(handles(cells, 0), func(handle int) bool { return cells[handle].Tag != tag })
}

// since is what the counters grew by.
func since(before, after api.Counts) api.Counts {
	return api.Counts{
		Created: after.Created - before.Created, Placed: after.Placed - before.Placed, Moved: after.Moved - before.Moved, Removed: after.Removed - before.Removed, Freed: after.Freed - before.Freed,
		Attrs: after.Attrs - before.Attrs, Texts: after.Texts - before.Texts,
	}
}

// TestT4Told: what an update changes, told by its counts.
func TestT4Told(t *testing.T) {
	t.Parallel()
	two := `<for each="x" :in="l" :key="x"><li>{{ x }}</li></for>`
	for _, row := range []struct {
		s, from, to string
		want        api.Counts
	}{
		{two, `{"l":[1,2,3]}`, `{"l":[3,1,2]}`, api.Counts{Moved: 1}}, {two, `{"l":[1,2,3]}`, `{"l":[3,2,1]}`, api.Counts{Moved: 2}}, {two, `{"l":[1,2,3,4]}`, `{"l":[2,3,4,1]}`, api.Counts{Moved: 1}},
		{two, `{"l":[1,2,3]}`, `{"l":[1,3]}`, api.Counts{Removed: 1, Freed: 2}}, {two, `{"l":[1,3]}`, `{"l":[1,2,3]}`, api.Counts{Created: 2, Placed: 1}}, {two, `{"l":[1,2]}`, `{"l":[2,3,1]}`, api.Counts{Created: 2, Placed: 1, Moved: 1}},
		{two, `{"l":[1,2]}`, `{"l":["1",2]}`, api.Counts{Created: 2, Placed: 1, Removed: 1, Freed: 2}}, {two, `{"l":[]}`, `{"l":[]}`, api.Counts{}},
		{`<p :a="v" :b="w" c="1">{{ v }}{{ w }}</p>`, `{"v":1,"w":2}`, `{"v":3,"w":2}`, api.Counts{Attrs: 1, Texts: 1}}, {`<p :a="v" :b="w" c="1">{{ v }}{{ w }}</p>`, `{"v":1,"w":23}`, `{"v":12,"w":3}`, api.Counts{Attrs: 2}},
		{`<p :a="v"/>{{ v }}`, `{"v":1}`, `{"v":"1"}`, api.Counts{}}, {`<p :a="v"/>`, `{"v":null}`, `{"v":false}`, api.Counts{}}, {`<p :a="v"/>`, `{"v":null}`, `{"v":true}`, api.Counts{Attrs: 1}}, {`<p :a="v"/>`, `{"v":""}`, `{"v":true}`, api.Counts{}},
		{`<if :test="v"><p>x</p>y</if><else><p>x</p>y</else>`, `{"v":true}`, `{"v":false}`, api.Counts{Created: 3, Placed: 2, Removed: 2, Freed: 3}}, {`<if :test="v > 0"><p>{{ v }}</p></if>`, `{"v":1}`, `{"v":2}`, api.Counts{Texts: 1}},
		{`<def name="d" props="t"><p>{{ t }}<slot/></p></def><d :t="v">{{ w }}</d>`, `{"v":1,"w":1}`, `{"v":1,"w":2}`, api.Counts{Texts: 1}}, {`<def name="d" props="t"><slot/><slot/></def><d :t="z">{{ w }}</d>`, `{"z":[],"w":1}`, `{"z":[1],"w":2}`, api.Counts{Texts: 2}},
		{`<for each="x" at="i" :in="l" :key="x"><p :a="i"/></for>`, `{"l":[1,2,3]}`, `{"l":[2,1,3]}`, api.Counts{Moved: 1, Attrs: 2}}, {`<for each="x" at="i" :in="l" :key="i"><p>{{ x }}</p></for>`, `{"l":[1,2,3]}`, `{"l":[2,1,3]}`, api.Counts{Texts: 2}},
		{`<for each="y" :in="l" :key="y.k"><p><for each="x" :in="y.l" :key="x"><b/></for></p></for>`, `{"l":[{"k":1,"l":[1,2]},{"k":2,"l":[3,4]}]}`, `{"l":[{"k":2,"l":[4,3]},{"k":1,"l":[2,1]}]}`, api.Counts{Moved: 3}},
		{`<for each="y" :in="l" :key="y.k"><p><for each="x" :in="y.l" :key="x"><b/></for></p></for>`, `{"l":[{"k":1,"l":[1,2]},{"k":2,"l":[3,4]}]}`, `{"l":[{"k":2,"l":[1,3,4]},{"k":1,"l":[2]}]}`, api.Counts{Created: 1, Placed: 1, Moved: 1, Removed: 1, Freed: 1}},
	} {
		h := newHerd(t, row.s, 40)
		if h.mount(t, row.from) != api.OK || h.update(t, row.from) != api.OK {
			t.Fatalf("%s: %s", row.s, row.from)
		}
		for i, x := range h.sessions {
			before := x.Counts()
			if code := x.Update([]byte(row.to)); code != api.OK || since(before, x.Counts()) != row.want {
				t.Errorf("%+v: %s: %s: %d, %+v, want %+v", settings()[i], row.s, row.to, code, since(before, x.Counts()), row.want)
			}
		}
	}
}

// TestT4Handles: a node keeps its handle as long as its origin stands in each state; one that comes again behind a state without it is new.
func TestT4Handles(t *testing.T) {
	s := `<for each="x" :in="l" :key="x"><li>{{ x }}<if :test="b"><i/></if></li></for>`
	for i, x := range all(t, s, 40) {
		if x.Mount([]byte(`{"l":[1,2,3,4],"b":true}`)) != api.OK {
			t.Fatal("not mounted")
		}
		li, texts, marks := holding(x, "li"), holding(x, ""), holding(x, "i")
		if !slices.Equal(li, []int{1, 4, 7, 10}) || !slices.Equal(texts, []int{2, 5, 8, 11}) || !slices.Equal(marks, []int{3, 6, 9, 12}) {
			t.Fatalf("%v, %v, %v", li, texts, marks)
		}
		if x.Update([]byte(`{"l":[4,2,1,3],"b":true}`)) != api.OK || !slices.Equal(holding(x, "li"), []int{10, 4, 1, 7}) || !slices.Equal(holding(x, ""), []int{11, 5, 2, 8}) || !slices.Equal(holding(x, "i"), []int{12, 6, 3, 9}) {
			t.Errorf("%+v: %v", settings()[i], holding(x, "li"))
		}
		if x.Update([]byte(`{"l":[3,9,4],"b":false}`)) != api.OK || !slices.Equal(holding(x, "li")[:1], []int{7}) || holding(x, "li")[2] != 10 || len(holding(x, "i")) != 0 {
			t.Errorf("%+v: %v", settings()[i], holding(x, "li"))
		}
		// Gone are, in their row, the mark of 4, the items 2 and 1, the mark of 3: the last one let go is the first one taken.
		if !slices.Equal(x.Free()[:6], []int{2, 3, 4, 5, 6, 12}) || holding(x, "li")[1] != 9 || holding(x, "")[1] != 1 {
			t.Errorf("%+v: %v, %v", settings()[i], holding(x, "li"), x.Free())
		}
	}
}

// TestT4Again: a state that is taken again, in other bytes too, changes nothing; nor does one that tells more, of which nothing is shown.
func TestT4Again(t *testing.T) {
	t.Parallel()
	m := newMaker(254)
	for _, s := range pages() {
		for i, x := range all(t, s, 300) {
			d := m.record(1, 0)
			if x.Mount([]byte(d)) != api.OK {
				t.Fatal("not mounted")
			}
			before := pictureOf(x)
			v, _, _ := data.Parse([]byte(d))
			printed, _ := data.Print(v)
			for _, same := range []string{d, string(printed), strings.ReplaceAll(d, " ", "\n\t "), `{"aa": 1, ` + d[1:]} {
				if x.Update([]byte(same)) != api.OK || !pictureOf(x).same(before) {
					t.Fatalf("%+v: %s: %s: %s, want %s", settings()[i], s, same, cut(pictureOf(x)), cut(before))
				}
			}
		}
	}
}

// TestT4Static: what is static is never touched, whatever the states are.
func TestT4Static(t *testing.T) {
	t.Parallel()
	still := `<p a="1">x<b c="2">y</b><i/></p>`
	m := newMaker(255)
	for i, x := range all(t, `{{ v }}`+still+`<for each="x" :in="l" :key="x.k"><q>`+still+`</q></for>`, 400) {
		if x.Mount([]byte(m.record(1, 0))) != api.OK {
			t.Fatal("not mounted")
		}
		for range 20 {
			before, cells := x.Counts(), x.Cells()
			x.Update([]byte(m.record(1, 0)))
			if n := since(before, x.Counts()); n.Attrs != 0 || n.Texts > 1 {
				t.Fatalf("%+v: %+v", settings()[i], n)
			}
			for handle, cell := range x.Cells()[2:7] {
				was := cells[2+handle]
				was.Next, cell.Next = 0, 0
				if !sameCells(was, cell) {
					t.Fatalf("%+v: %d: %+v, %+v", settings()[i], handle+2, was, cell)
				}
			}
		}
	}
}

// TestT4Lists: from every short list to every other one, of static elements and of others, with texts ahead and behind.
func TestT4Lists(t *testing.T) {
	t.Parallel()
	lists := arrangements(3)
	for _, s := range []string{
		`<for each="x" :in="l" :key="x"><b>x</b></for>z`, `<p>y<for each="x" at="i" :in="l" :key="x"><b :a="i">{{ x }}<if :test="i == 1"><i/></if></b></for></p>`,
		`<def name="d" props="l"><for each="x" at="i" :in="l" :key="x"><b><slot :x="x" :i="i">n</slot></b></for></def><d :l="l"><fill let="x i"><if :test="i == x"><for each="y" :in="l" :key="y"><i/></for></if><else>n</else></fill></d>`,
	} {
		h := newHerd(t, s, 40)
		h.mount(t, `{"l": []}`)
		for _, a := range lists {
			for _, b := range lists {
				h.update(t, `{"l": [`+a+`]}`)
				h.update(t, `{"l": [`+b+`]}`)
			}
		}
		if n := h.asked.counts; n.Moved < 50 || n.Placed < 100 || n.Removed < 100 {
			t.Errorf("%+v", n)
		}
	}
}

// TestT5Settings: sessions in the eight settings answer alike and keep one arena, asked of one another alone.
func TestT5Settings(t *testing.T) {
	t.Parallel()
	m, met := newMaker(256), map[api.Errno]int{}
	for i := range 120 {
		m.off = i % 3
		s := m.word(pages()...)
		if i%2 == 0 {
			s = m.template(4)
		}
		x, _, code := New(s, []int{15, 80, 300}[i%3], api.Options{})
		if code != api.OK {
			continue
		}
		others := all(t, s, len(x.Cells()))
		for range 12 {
			c := told{call: m.word("update", "update", "update", "update", "mount", "mount", "unmount"), d: m.state(1 + i%2)}
			code := c.of(x)
			met[code]++
			want := pictureOf(x)
			for k, other := range others {
				if got := c.of(other); got != code || !pictureOf(other).same(want) {
					t.Fatalf("%+v: %s %s: %d, with none %d: %s", settings()[k], c.call, cut(c.d), got, code, cut(s))
				}
			}
		}
	}
	expectMet(t, met, 5, api.OK, api.ErrDataForm, api.ErrEvalType, api.ErrVmFull, api.ErrVmBare, api.ErrVmMounted)
}

// TestT6Unmount: mounted and unmounted many times, nothing is lost, and nothing is left; what is mounted anew is shown as in the beginning.
func TestT6Unmount(t *testing.T) {
	t.Parallel()
	m := newMaker(257)
	for _, s := range pages() {
		for _, x := range all(t, s, 120) {
			mounts := 0
			for range 10 {
				d := []byte(m.record(1, 0))
				if x.Mount(d) != api.OK {
					expectBare(t, x, 120)
					continue
				}
				mounts++
				html := x.Html()
				x.Update([]byte(m.record(1, 0)))
				x.Update([]byte(m.state(1)))
				if x.Unmount() != api.OK {
					t.Fatal("not unmounted")
				}
				expectBare(t, x, 120)
				if x.Mount(d) != api.OK || x.Html() != html || x.Unmount() != api.OK {
					t.Fatalf("%s: %s, want %s", s, x.Html(), html)
				}
				expectBare(t, x, 120)
			}
			if mounts < 5 {
				t.Errorf("%d were mounted: %s", mounts, s)
			}
		}
	}
}

// TestT1Render: a state is refused with render's error, and shown as render's forest, which is asked of render alone.
func TestT1Render(t *testing.T) {
	t.Parallel()
	m := newMaker(258)
	for _, s := range pages() {
		cs, _, _ := cores(s)
		for i, x := range all(t, s, api.MaxRoom) {
			m.off = i
			for range 4 {
				d := []byte(m.record(1, 0))
				v, _, _ := data.Parse(d)
				fs, code := render.Render(cs, v)
				if code == api.ErrRenderKey {
					code = api.ErrVmKey
				}
				was := x.mounted
				if left := x.Unmount(); was != (left == api.OK) {
					t.Fatal("what it knows is not what it is")
				}
				if got := x.Mount(d); got != code || code == api.OK && !slices.EqualFunc(x.Forest(), fs, sameTrees) {
					t.Fatalf("%s: %s: %d, want %d", s, d, got, code)
				}
			}
		}
	}
}
