package render

import "stencil/api"

// builder gathers the trees that a walk makes, of one list of kids at a time.
type builder struct {
	trees []api.Tree
}

func (b *builder) Text(_ int, text string) {
	b.trees = append(b.trees, api.Tree{Text: text})
}

func (b *builder) Element(_ int, tag string, attrs []api.Attr, kids func()) {
	ahead := b.trees
	b.trees = nil
	kids()
	b.trees = append(ahead, api.Tree{Tag: tag, Attrs: attrs, Kids: b.trees})
}

func (b *builder) Loop(_ int, keys []api.Key, kid func(i int)) {
	for i := range keys {
		kid(i)
	}
}
