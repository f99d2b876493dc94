package search

import (
	"lacquer/api"
	"lacquer/predict"
	"lacquer/rice"
)

// How many bits the parts of a subframe have: its first bit, its type and whether bits are wasted; Precision and Shift.
const (
	headBits  = 8
	coefsHead = 9
)

// coding is a way to code channels: their mode, a Sub for each, and how many bits these have together.
type coding struct {
	mode int
	subs []api.Sub
	bits int
}

// shortest is the one with the fewest bits, of several the first.
func shortest(list ...coding) coding {
	best := list[0]
	for _, c := range list {
		if c.bits < best.bits {
			best = c
		}
	}
	return best
}

// joined is the codings of channels as one, in this mode.
func joined(mode int, channels ...coding) coding {
	all := coding{mode: mode}
	for _, c := range channels {
		all.subs = append(all.subs, c.subs...)
		all.bits += c.bits
	}
	return all
}

// channel is the shortest coding of the samples l, each of which has width bits.
func channel(l []int, width, level int) coding {
	wasted := predict.Wasted(l)
	less, _ := predict.Shift(l, wasted)
	return shortest(codings(less, width-wasted, wasted, level)...)
}

// codings are those that the level knows, in their order, of samples l, each of which has width bits beside the wasted ones.
func codings(l []int, width, wasted, level int) []coding {
	var list []coding
	if areSame(l) {
		list = append(list, codingOf(api.Sub{Kind: api.SubConstant, Wasted: wasted}, width))
	}
	list = append(list, codingOf(api.Sub{Kind: api.SubVerbatim, Wasted: wasted}, len(l)*width))
	for _, s := range predictors(level) {
		rest, e := leftOver(s, l)
		if e != api.OK {
			continue
		}
		r, n := rice.Best(len(l), s.Order, rest)
		if n == none {
			continue
		}
		s.Wasted, s.Rice = wasted, r
		list = append(list, codingOf(s, s.Order*width+coefsBits(s)+n))
	}
	return list
}

// codingOf is a Sub whose samples have so many bits. A number of wasted bits stands in as many bits; where none is wasted, it has none.
func codingOf(s api.Sub, bits int) coding {
	return coding{subs: []api.Sub{s}, bits: headBits + s.Wasted + bits}
}

// areSame says whether all samples are the same.
func areSame(l []int) bool {
	for _, n := range l {
		if n != l[0] {
			return false
		}
	}
	return true
}
