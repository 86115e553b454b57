// Package held tells whether spots lie in one another as the nodes of a forest do.
package held

import "stencil/api"

// All tells whether each spot stands outside all others, or in an element ahead of it.
func All(spots []api.Spot) bool {
	for i, spot := range spots {
		if spot.Parent != -1 && (spot.Parent < 0 || spot.Parent >= i || spots[spot.Parent].Tag == "") {
			return false
		}
	}
	return true
}
