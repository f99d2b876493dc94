package oggflac

import (
	"slices"

	"lacquer/api"
)

// copyOf is the same skeleton in lists of its own.
func copyOf(f api.Flac) api.Flac {
	f.Blocks, f.Frames = slices.Clone(f.Blocks), slices.Clone(f.Frames)
	for k := range f.Frames {
		g := &f.Frames[k]
		g.Subs = slices.Clone(g.Subs)
		for c := range g.Subs {
			s := &g.Subs[c]
			s.Coefs = slices.Clone(s.Coefs)
			s.Rice.Params, s.Rice.Escapes = slices.Clone(s.Rice.Params), slices.Clone(s.Rice.Escapes)
		}
	}
	return f
}
