// Package short holds the bound that many layers set on a text that is kept: it is valid and of at most MaxStr bytes.
package short

import (
	"stencil/api"
	"stencil/utf"
)

// Text tells whether s is a valid text of at most MaxStr bytes. The length is asked first, so that no long text is read.
func Text(s string) bool {
	if len(s) > api.MaxStr {
		return false
	}
	_, code := utf.Valid(s)
	return code == api.OK
}
