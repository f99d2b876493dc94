package subframe

import (
	"lacquer/api"
	"lacquer/bits"
)

// The types of subframes, as their bits have them; an Order is added to those of predictors.
const (
	typeConstant = 0
	typeVerbatim = 1
	typeFixed    = 8
	typeLpc      = 31
)

const typeWidth = 6

// writeHead writes what stands ahead of the samples.
func writeHead(w *bits.Writer, s api.Sub) {
	w.Put(0, 1)
	w.Put(uint64(typeOf(s)), typeWidth)
	if s.Wasted == 0 {
		w.Put(0, 1)
		return
	}
	w.Put(1, 1)
	w.Unary(s.Wasted - 1)
}

// readHead reads what stands ahead of the samples: a Sub with its Kind, Order and Wasted.
func readHead(x *bits.Reader, block, width int) (api.Sub, bool) {
	first, ok := number(x, 1)
	if !ok || first != 0 {
		return api.Sub{}, false
	}
	code, ok := number(x, typeWidth)
	if !ok {
		return api.Sub{}, false
	}
	s, ok := ofType(code, block)
	if !ok {
		return api.Sub{}, false
	}
	s.Wasted, ok = readWasted(x)
	return s, ok && s.Wasted < width
}

// typeOf is the type of a Sub that may be.
func typeOf(s api.Sub) int {
	switch s.Kind {
	case api.SubConstant:
		return typeConstant
	case api.SubVerbatim:
		return typeVerbatim
	case api.SubFixed:
		return typeFixed + s.Order
	}
	return typeLpc + s.Order
}

// ofType is the Kind and the Order whose type code is; false, if there is none for this block.
func ofType(code, block int) (api.Sub, bool) {
	switch {
	case code == typeConstant:
		return api.Sub{Kind: api.SubConstant}, true
	case code == typeVerbatim:
		return api.Sub{Kind: api.SubVerbatim}, true
	case code <= typeLpc:
		s := api.Sub{Kind: api.SubFixed, Order: code - typeFixed}
		return s, hasOrder(s, block)
	}
	s := api.Sub{Kind: api.SubLpc, Order: code - typeLpc}
	return s, hasOrder(s, block)
}

// readWasted reads how many bits are wasted.
func readWasted(x *bits.Reader) (int, bool) {
	flag, ok := number(x, 1)
	if !ok || flag == 0 {
		return 0, ok
	}
	less, e := x.Unary()
	return less + 1, e == api.OK
}

// number is the next so many bits; false, if they end.
func number(x *bits.Reader, width int) (int, bool) {
	n, e := x.Get(width)
	return int(n), e == api.OK
}
