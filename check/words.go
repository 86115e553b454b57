package check

import (
	"slices"
	"strings"

	"stencil/api"
	"stencil/utf"
)

const blanks = " \t\n\r"

// words are what stands between blanks.
func words(s string) []string {
	return strings.FieldsFunc(s, func(c rune) bool { return strings.ContainsRune(blanks, c) })
}

func isWord(s string) bool {
	return utf.Name(s) && s != "null" && s != "false" && s != "true"
}

// areWords tells whether s holds words that may be bound beside one another.
func areWords(s string) bool {
	all := words(s)
	if len(all) > api.MaxProps {
		return false
	}
	for i, word := range all {
		if !isWord(word) || slices.Contains(all[:i], word) {
			return false
		}
	}
	return true
}

func isSlotName(s string) bool {
	return s == "" || utf.Tag(s)
}

// isSolid tells a node that is no blank text, and so is left out nowhere.
func isSolid(n api.Node) bool {
	return len(n.Parts) != 1 || n.Parts[0].Bound || strings.Trim(n.Parts[0].Plain, blanks) != ""
}

func isFill(n api.Node) bool {
	return n.Tag == "fill"
}

// fieldOf is the first field of that name; if there is none, a zero one.
func fieldOf(n *api.Node, name string) api.Field {
	for _, field := range n.Fields {
		if field.Name == name {
			return field
		}
	}
	return api.Field{}
}

// plainOf is the plain value of the first field of that name, or empty.
func plainOf(n *api.Node, name string) string {
	return fieldOf(n, name).Plain
}
