package flac

import (
	"lacquer/api"
	"lacquer/predict"
)

// A skeleton may ask for Rice codes of which a few samples fill more than any file may have. Only the bits 0 that such a code begins with can grow so; they are counted here, without laying them. Each of these calls answers false, where the samples do not go with the frame, which frame.Check takes.

const (
	maxZeros = 1 << 24 // that a Rice code begins with
	coded    = -1      // the Escapes of a partition that has Rice codes
)

// zerosOf is how many bits 0 the Rice codes of a frame begin with together.
func zerosOf(f api.Frame, planes [][]int) (int, bool) {
	sum := 0
	for c, l := range channels(f.Mode, planes) {
		zeros, ok := zerosOfSub(f.Subs[c], l)
		if !ok {
			return 0, false
		}
		sum += zeros
	}
	return sum, true
}

// channels is the planes as the mode codes them.
func channels(mode int, planes [][]int) [][]int {
	if mode == api.ModeAlone {
		return planes
	}
	a, b, _ := predict.Stereo(mode, planes[0], planes[1])
	return [][]int{a, b}
}

// zerosOfSub is that of the channel l.
func zerosOfSub(s api.Sub, l []int) (int, bool) {
	less, e := predict.Shift(l, s.Wasted)
	if e != api.OK {
		return 0, false
	}
	switch s.Kind {
	case api.SubConstant:
		return 0, areSame(l)
	case api.SubVerbatim:
		return 0, true
	}
	rest, e := leftOver(s, less)
	if e != api.OK {
		return 0, false
	}
	return zerosOfRest(s, len(l)>>s.Rice.Order, rest)
}

// areSame says whether all samples are the same.
func areSame(l []int) bool {
	for _, n := range l {
		if n != l[0] {
			return false
		}
	}
	return true
}

// leftOver is what the Sub's predictor leaves over of l.
func leftOver(s api.Sub, l []int) ([]int, api.Errno) {
	if s.Kind == api.SubFixed {
		return predict.Fixed(s.Order, l)
	}
	return predict.Lpc(s.Coefs, s.Shift, l)
}

// zerosOfRest is that of the residuals, which stand in partitions of this size; those that the first one lacks are the samples that the predictor begins with.
func zerosOfRest(s api.Sub, size int, rest []int) (int, bool) {
	sum := 0
	for i, n := range rest {
		zeros, ok := zerosOfCode(s.Rice, (s.Order+i)/size, n)
		if !ok {
			return 0, false
		}
		sum += zeros
	}
	return sum, true
}

// zerosOfCode is that of one residual of a partition. As a folded number is below 2^e just if n has e bits at most, one that is escaped needs no bounds of its own.
func zerosOfCode(r api.Rice, partition, n int) (int, bool) {
	if e := r.Escapes[partition]; e != coded {
		return 0, folded(n)>>e == 0
	}
	zeros := folded(n) >> r.Params[partition]
	return int(zeros), zeros <= maxZeros
}

// folded is twice n, or twice -n less 1 of an n below 0. It shifts instead of negating, for the smallest int has no -n.
func folded(n int) uint64 {
	return uint64(n)<<1 ^ uint64(n>>63)
}
