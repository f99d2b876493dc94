package rice

import (
	"lacquer/api"
	"lacquer/bits"
)

// In how many bits the parts of a Rice stand that are as long with both methods.
const (
	methodWidth = 2
	orderWidth  = 4
	escapeWidth = 5
)

// Decode is the residuals that stand at x, and how they are coded.
func Decode(x *bits.Reader, block, order int) ([]int, api.Rice, api.Errno) {
	if x == nil || !areOf(block, order) || order > block {
		return nil, api.Rice{}, api.ErrArg
	}
	r, c, ok := readHead(x, block, order)
	if !ok {
		return nil, api.Rice{}, api.ErrMalformed
	}
	l := make([]int, c.count())
	for i := range c.parts {
		if !readPartHead(x, &r, i) || !readPart(x, r, i, c.part(l, i)) {
			return nil, api.Rice{}, api.ErrMalformed
		}
	}
	return l, r, api.OK
}

// readHead reads the method and the order; the Rice has room for what its partitions say.
func readHead(x *bits.Reader, block, order int) (api.Rice, cut, bool) {
	method, ok := number(x, methodWidth)
	if !ok || method > maxMethod {
		return api.Rice{}, cut{}, false
	}
	power, ok := number(x, orderWidth)
	if !ok {
		return api.Rice{}, cut{}, false
	}
	c, ok := cutOf(block, order, power)
	if !ok {
		return api.Rice{}, cut{}, false
	}
	r := api.Rice{Method: method, Order: power, Params: make([]int, c.parts), Escapes: make([]int, c.parts)}
	return r, c, true
}

// readPartHead reads what stands ahead of the numbers of the partition i.
func readPartHead(x *bits.Reader, r *api.Rice, i int) bool {
	param, ok := number(x, paramWidth(r.Method))
	if !ok {
		return false
	}
	if param != mark(r.Method) {
		r.Params[i], r.Escapes[i] = param, coded
		return true
	}
	r.Escapes[i], ok = number(x, escapeWidth)
	return ok
}

// readPart reads the numbers of the partition i, which are 0 so far.
func readPart(x *bits.Reader, r api.Rice, i int, part []int) bool {
	escape, param := r.Escapes[i], r.Params[i]
	if escape == 0 {
		return true
	}
	for j := range part {
		n, e := readOne(x, param, escape)
		if e != api.OK {
			return false
		}
		part[j] = n
	}
	return true
}

// readOne reads one number of a partition that has bits of it.
func readOne(x *bits.Reader, param, escape int) (int, api.Errno) {
	if escape == coded {
		return x.Rice(param)
	}
	return x.Signed(escape)
}

// number is the next so many bits; false, if they end.
func number(x *bits.Reader, width int) (int, bool) {
	n, e := x.Get(width)
	return int(n), e == api.OK
}
