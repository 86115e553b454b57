package origin

import "stencil/api"

// outside stands for what the forest's own trees lie in: no core node has its number.
var outside = api.Origin{Node: -1}

// tracer gathers what a walk meets. The origin that it embeds is that of what is met next, but for the number; inside is that of the element around it.
type tracer struct {
	api.Origin
	inside api.Origin
	places map[api.Origin]int
	spots  []api.Spot
	loops  []api.Loop
}

func (t *tracer) Text(number int, text string) {
	t.add(api.Spot{Origin: t.at(number), Text: text})
}

func (t *tracer) Element(number int, tag string, attrs []api.Attr, kids func()) {
	here, around := t.at(number), t.inside
	t.places[here] = len(t.spots)
	t.add(api.Spot{Origin: here, Tag: tag, Attrs: attrs})
	t.inside = here
	kids()
	t.inside = around
}

func (t *tracer) Loop(number int, keys []api.Key, kid func(i int)) {
	t.loops = append(t.loops, api.Loop{Origin: t.at(number), Keys: keys})
	around := t.Origin
	for i, key := range keys {
		t.Keys[t.Loops] = key
		t.Loops++
		kid(i)
		t.Origin = around
	}
}

// at is the origin of a core node where the walk stands.
func (t *tracer) at(number int) api.Origin {
	o := t.Origin
	o.Node = number
	return o
}

func (t *tracer) add(spot api.Spot) {
	spot.Parent = t.place(t.inside)
	t.spots = append(t.spots, spot)
}

// place is where the spot of an origin stands: no two have one origin.
func (t *tracer) place(o api.Origin) int {
	if o == outside {
		return -1
	}
	return t.places[o]
}
