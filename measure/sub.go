package measure

import (
	"lacquer/api"
	"lacquer/predict"
	"lacquer/rice"
)

// How many bits the parts of a subframe have.
const (
	headWidth      = 8
	precisionWidth = 4
	shiftWidth     = 5
	riceWidth      = 2 + 4 // its Method and its Order
	paramWidth     = 4     // and one more with Method 1
	escapeWidth    = 5
)

// coded stands in Escapes for a partition that has Rice codes.
const coded = -1

// subBits is how many bits the subframe of the channel l has.
func subBits(s api.Sub, width int, l []int) int {
	less, e := predict.Shift(l, s.Wasted)
	if e != api.OK {
		return none
	}
	// The number of wasted bits is told by as many bits.
	bits, each := headWidth+s.Wasted, width-s.Wasted
	switch s.Kind {
	case api.SubConstant:
		if !areSame(less) {
			return none
		}
		return bits + each
	case api.SubVerbatim:
		return bits + each*len(less)
	case api.SubLpc:
		bits += precisionWidth + shiftWidth + s.Order*s.Precision
	}
	rest, e := leftOver(s, less)
	if e != api.OK {
		return none
	}
	n := restBits(s, len(l)>>s.Rice.Order, rest)
	if n == none {
		return none
	}
	return bits + each*s.Order + n
}

// areSame says whether all samples are the same.
func areSame(l []int) bool {
	for _, n := range l {
		if n != l[0] {
			return false
		}
	}
	return true
}

// leftOver is what the Sub's predictor leaves over of l.
func leftOver(s api.Sub, l []int) ([]int, api.Errno) {
	if s.Kind == api.SubFixed {
		return predict.Fixed(s.Order, l)
	}
	return predict.Lpc(s.Coefs, s.Shift, l)
}

// restBits is how many bits the residuals have, which stand in partitions of this size. The first one has fewer: it lacks the samples that the predictor begins with.
func restBits(s api.Sub, size int, rest []int) int {
	bits, from := riceWidth, 0
	for i := range s.Rice.Params {
		end := (i+1)*size - s.Order
		n := partBits(s.Rice, i, rest[from:end])
		if n == none {
			return none
		}
		bits, from = bits+n, end
	}
	return bits
}

// partBits is how many bits a partition of these residuals has.
func partBits(r api.Rice, i int, part []int) int {
	head := paramWidth + r.Method
	if escape := r.Escapes[i]; escape != coded {
		if !areWithin(part, escape) {
			return none
		}
		return head + escapeWidth + escape*len(part)
	}
	n := rice.Cost(part, r.Params[i])
	if n == none {
		return none
	}
	return head + n
}

// areWithin says whether so many bits hold each number, signed: just as many as it has where it is folded, so that one of no bits needs no bounds of its own.
func areWithin(l []int, width int) bool {
	for _, n := range l {
		if folded(n)>>width != 0 {
			return false
		}
	}
	return true
}

// folded is twice n, or twice -n less 1 of an n below 0. It shifts instead of negating, for the smallest int has no -n.
func folded(n int) uint64 {
	return uint64(n)<<1 ^ uint64(n>>63)
}
