package patch

import (
	"slices"

	"stencil/api"
	"stencil/held"
	"stencil/lis"
)

// rendering is spots and loops, with the places of their origins.
type rendering struct {
	spots  []api.Spot
	loops  []api.Loop
	spotAt map[api.Origin]int
	loopAt map[api.Origin]int
}

func read(spots []api.Spot, loops []api.Loop) rendering {
	return rendering{
		spots:  spots,
		loops:  loops,
		spotAt: placesOf(spots, func(spot api.Spot) api.Origin { return spot.Origin }),
		loopAt: placesOf(loops, func(loop api.Loop) api.Origin { return loop.Origin }),
	}
}

// placesOf has fewer origins than the list, if one stands there twice.
func placesOf[T any](list []T, originOf func(T) api.Origin) map[api.Origin]int {
	places := make(map[api.Origin]int, len(list))
	for i, one := range list {
		places[originOf(one)] = i
	}
	return places
}

func (r rendering) mayBe() bool {
	if len(r.spotAt) < len(r.spots) || len(r.loopAt) < len(r.loops) {
		return false
	}
	return held.All(r.spots) && !slices.ContainsFunc(r.spots, isWrongSpot) && !slices.ContainsFunc(r.loops, isWrongLoop)
}

// isWrongSpot tells whether a spot may not be, wherever it stands.
func isWrongSpot(spot api.Spot) bool {
	if spot.Tag == "" {
		return len(spot.Attrs) > 0 || isWrongOrigin(spot.Origin)
	}
	return spot.Text != "" || !rise(spot.Attrs) || isWrongOrigin(spot.Origin)
}

// isWrongLoop tells whether a loop may not be, wherever it stands.
func isWrongLoop(loop api.Loop) bool {
	_, _, code := lis.Moves(loop.Keys, nil)
	return code != api.OK || isWrongOrigin(loop.Origin)
}

// isWrongOrigin tells whether an origin may not be. Keys that do not count would make two origins of one, so they must be zero.
func isWrongOrigin(o api.Origin) bool {
	if o.Node < 0 || o.Loops < 0 || o.Loops > api.MaxLoops {
		return true
	}
	counting := o.Keys
	clear(counting[o.Loops:])
	return counting != o.Keys
}

// rise tells whether each name is greater than the one ahead of it.
func rise(attrs []api.Attr) bool {
	for i := 1; i < len(attrs); i++ {
		if attrs[i-1].Name >= attrs[i].Name {
			return false
		}
	}
	return true
}
