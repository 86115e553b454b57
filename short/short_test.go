package short

import (
	"strings"
	"testing"

	"stencil/api"
)

func TestText(t *testing.T) {
	full := strings.Repeat("é", api.MaxStr/2)
	for s, want := range map[string]bool{
		"": true, "a": true, "\x00": true, "é€😀": true, "\ufffd": true, full: true, strings.Repeat("a", api.MaxStr): true,
		"\xff": false, "a\xc3": false, "\x80": false, "\xed\xa0\x80": false, "\xc0\x80": false, "\xf4\x90\x80\x80": false,
		full + "a": false, full[:api.MaxStr-1]: false, full[1:]: false, strings.Repeat("a", api.MaxStr-1) + "\xff": false,
	} {
		if Text(s) != want {
			t.Errorf("Text of %d bytes, %.10q: want %v", len(s), s, want)
		}
	}
}
