package lex

import (
	"math/rand"
	"slices"
	"strings"
	"sync"
	"testing"
	"time"
	"unsafe"

	"stencil/api"
)

// TestR1AnyBytes: any bytes have an answer, and it is the one that was asked for.
func TestR1AnyBytes(t *testing.T) {
	m := maker{rand.New(rand.NewSource(123))}
	for range 30000 {
		b := make([]byte, m.Intn(40))
		for i := range b {
			b[i] = byte(m.Intn(256))
		}
		expectAsked(t, string(b))
		for i := range b {
			b[i] = "<>/={}&;:\"' \n-1apbltmé_A\x00"[m.Intn(26)]
		}
		expectAsked(t, string(b))
	}
}

// largeTemplates are templates of about 64 KB, of many tokens and of few, whole and cut.
func largeTemplates() []string {
	large := []string{"<p" + strings.Repeat(` a=""`, api.MaxTemplate/5-1) + ">", "<p" + strings.Repeat(" ", api.MaxTemplate-3), "<p" + strings.Repeat(` :a=">"`, api.MaxTemplate/7-1)}
	for _, piece := range []string{
		"<p>", "</p>", "<p/>", "{{}}", "a{{b}}", "<b>x</b>", "x<b/>{", "{ ", "{", "}", "<", ">", "&", "&amp;", `"`, ":", "=", " ", "a", "é", "{{", "}}", "{{}", "<p ", "<p a=\"", `<p a="&lt;" :b="c" />`, "</p \n>", "<p a=\"x\">y{{z}}</p>",
	} {
		full := strings.Repeat(piece, api.MaxTemplate/len(piece))
		large = append(large, full, full[:len(full)-1], "<p :a=\""+full[:len(full)-10], "{{"+full[:len(full)-2])
	}
	return large
}

func TestR1LargeTemplates(t *testing.T) {
	for _, s := range largeTemplates() {
		expectAsked(t, s)
	}
}

// spent is the least time that n calls take.
func spent(n int, s string) time.Duration {
	least := time.Hour
	for range 15 {
		begun := time.Now()
		for range n {
			Lex(s)
		}
		least = min(least, time.Since(begun))
	}
	return least
}

// TestR1Time: a template of 64 KB takes about as long as sixteen of 4 KB, however many tokens it has.
func TestR1Time(t *testing.T) {
	for _, piece := range []string{"<p>x", "x{{}}", "{x<b/>", "<p>", "{{}}", `<p a="b" :c="d"/>`, "</p>", "{ &lt;<b>"} {
		small := spent(16, strings.Repeat(piece, api.MaxTemplate/16/len(piece)))
		large := spent(1, strings.Repeat(piece, api.MaxTemplate/len(piece)))
		if large > 6*small+time.Millisecond {
			t.Errorf("%q: %v a template of 64 KB, %v sixteen of 4 KB", piece, large, small)
		}
	}
}

// overlap tells whether two texts lie in one memory.
func overlap(a, b string) bool {
	if a == "" || b == "" {
		return false
	}
	first, second := uintptr(unsafe.Pointer(unsafe.StringData(a))), uintptr(unsafe.Pointer(unsafe.StringData(b)))
	return first < second+uintptr(len(b)) && second < first+uintptr(len(a))
}

const everyKind = `text{{ expression }}<tag attribute="value" :bound="other &amp;" plain=""/><end></end > &lt;rest`

// TestR4NewMemory: no text of an answer lies in the template, nor in another answer.
func TestR4NewMemory(t *testing.T) {
	s := strings.Clone(everyKind)
	ts, _, _ := Lex(s)
	again, _, _ := Lex(s)
	if len(ts) != 11 || len(again) != 11 {
		t.Fatalf("%+v", ts)
	}
	for i, one := range ts {
		for _, mine := range []string{one.Name, one.Text} {
			if overlap(mine, s) {
				t.Errorf("token %d: %q lies in the template", i, mine)
			}
			for _, other := range again {
				if overlap(mine, other.Name) || overlap(mine, other.Text) {
					t.Errorf("token %d: %q lies in another answer", i, mine)
				}
			}
		}
	}
	if s != everyKind {
		t.Errorf("the template was changed: %q", s)
	}
}

// TestR4AnswersStay overwrites an answer, its spare room too: neither an earlier nor a later one changes.
func TestR4AnswersStay(t *testing.T) {
	want := askedLex(everyKind)
	first, _, _ := Lex(everyKind)
	second, _, _ := Lex(everyKind)
	clear(second[:cap(second)])
	third, _, _ := Lex(everyKind)
	if !slices.Equal(first, want.tokens) || !slices.Equal(third, want.tokens) {
		t.Errorf("%+v, %+v, want %+v", first, third, want.tokens)
	}
}

// TestR5NothingKept: what was asked ahead, faults among it, does not matter.
func TestR5NothingKept(t *testing.T) {
	texts := []string{everyKind, "", "a", "<p a=\"", "<p ", "{{", "&", "\xff", x(5000), x(70000), "<p>", "</p>", "{{a}}", ">"}
	for _, ahead := range texts {
		for _, s := range texts {
			Lex(ahead)
			expectAsked(t, s)
		}
	}
}

// TestR5Goroutines: calls at one time answer as calls one by one.
func TestR5Goroutines(t *testing.T) {
	var all sync.WaitGroup
	for n := range 8 {
		all.Go(func() {
			for range 200 {
				s := strings.Repeat(everyKind, n) + "<p a=\"" + x(n)
				expect(t, s, failed(len(s)-n-1, api.ErrLexAttr))
				expectAsked(t, strings.Repeat(everyKind, n))
			}
		})
	}
	all.Wait()
}
