package subframe

import (
	"slices"

	"lacquer/api"
	"lacquer/bits"
	"lacquer/predict"
	"lacquer/rice"
)

// Decode is the samples that stand at x, and how they are coded.
func Decode(x *bits.Reader, block, width int) ([]int, api.Sub, api.Errno) {
	if x == nil || !areOf(block, width) {
		return nil, api.Sub{}, api.ErrArg
	}
	s, ok := readHead(x, block, width)
	if !ok {
		return nil, api.Sub{}, api.ErrMalformed
	}
	l, ok := readBody(x, &s, block, width-s.Wasted)
	if !ok || !areWithin(l, width-s.Wasted) {
		return nil, api.Sub{}, api.ErrMalformed
	}
	for i := range l {
		l[i] <<= s.Wasted
	}
	return l, s, api.OK
}

// readBody reads the samples of a block, which have so many bits, and into s what else its Kind names. Both kinds with a predictor begin with the samples that it starts from; then one of them falls through to the other.
func readBody(x *bits.Reader, s *api.Sub, block, width int) ([]int, bool) {
	first, ok := readEach(x, asTheyAre(*s, block), width)
	if !ok {
		return nil, false
	}
	switch s.Kind {
	case api.SubConstant:
		return slices.Repeat(first, block), true
	case api.SubLpc:
		if !readCoefs(x, s) {
			return nil, false
		}
		fallthrough
	case api.SubFixed:
		return readRest(x, s, block, first)
	}
	return first, true
}

// readEach reads so many numbers, signed, each in so many bits.
func readEach(x *bits.Reader, count, width int) ([]int, bool) {
	l := make([]int, count)
	for i := range l {
		n, e := x.Signed(width)
		if e != api.OK {
			return nil, false
		}
		l[i] = n
	}
	return l, true
}

// readCoefs reads what the predictor of s is.
func readCoefs(x *bits.Reader, s *api.Sub) bool {
	less, ok := number(x, precisionWidth)
	if !ok || less+1 > maxPrecision {
		return false
	}
	shift, ok := number(x, shiftWidth)
	if !ok || shift > maxShift {
		return false
	}
	s.Precision, s.Shift = less+1, shift
	s.Coefs, ok = readEach(x, s.Order, s.Precision)
	return ok
}

// readRest reads the residuals, and is all samples of the block, of which first were read.
func readRest(x *bits.Reader, s *api.Sub, block int, first []int) ([]int, bool) {
	rest, r, e := rice.Decode(x, block, s.Order)
	if e != api.OK {
		return nil, false
	}
	s.Rice = r
	l, e := foretold(*s, first, rest)
	return l, e == api.OK
}

// foretold is first, and behind it the samples of which the Sub's predictor leaves rest over.
func foretold(s api.Sub, first, rest []int) ([]int, api.Errno) {
	if s.Kind == api.SubFixed {
		return predict.Unfixed(s.Order, first, rest)
	}
	return predict.Unlpc(s.Coefs, s.Shift, first, rest)
}
