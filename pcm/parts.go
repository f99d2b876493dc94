package pcm

import "lacquer/api"

// Slice is the samples of p from the place from on up to to, not with it.
func Slice(p api.PCM, from, to int) (api.PCM, api.Errno) {
	if e := Check(p); e != api.OK {
		return api.PCM{}, e
	}
	if from < 0 || from > to || to > Len(p) {
		return api.PCM{}, api.ErrArg
	}
	part := p
	part.Planes = cut(p.Planes, from, to)
	return part, api.OK
}

// Join is the samples of all of l, one behind the other.
func Join(l []api.PCM) (api.PCM, api.Errno) {
	if len(l) == 0 {
		return api.PCM{}, api.ErrParts
	}
	total := 0
	for _, p := range l {
		if e := Check(p); e != api.OK {
			return api.PCM{}, e
		}
		if !isAlike(p, l[0]) {
			return api.PCM{}, api.ErrParts
		}
		total += Len(p)
	}
	if total > api.MaxSamples {
		return api.PCM{}, api.ErrLarge
	}
	whole := l[0]
	whole.Planes = blank[int](whole.Channels, total)
	at := 0
	for _, p := range l {
		lay(whole.Planes, p.Planes, at)
		at += Len(p)
	}
	return whole, api.OK
}
