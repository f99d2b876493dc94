package rice

import (
	"lacquer/api"
	"lacquer/bits"
)

// Encode writes the residuals l as the Rice says. All is looked at first, for beside an error nothing may be written.
func Encode(w *bits.Writer, r api.Rice, block, order int, l []int) api.Errno {
	if w == nil {
		return api.ErrArg
	}
	if e := Check(r, block, order); e != api.OK {
		return e
	}
	c, _ := cutOf(block, order, r.Order)
	if !fit(r, c, l) {
		return api.ErrRecipe
	}
	w.Put(uint64(r.Method), methodWidth)
	w.Put(uint64(r.Order), orderWidth)
	for i := range c.parts {
		writeHead(w, r, i)
		writePart(w, r, i, c.part(l, i))
	}
	return api.OK
}

// fit says whether l has as many numbers as the cut asks for, each of which its partition can hold.
func fit(r api.Rice, c cut, l []int) bool {
	if len(l) != c.count() {
		return false
	}
	for i := range c.parts {
		part := c.part(l, i)
		if r.Escapes[i] == coded && Cost(part, r.Params[i]) < 0 {
			return false
		}
		if r.Escapes[i] != coded && !areWithin(part, r.Escapes[i]) {
			return false
		}
	}
	return true
}

// areWithin says whether so many bits hold each number, signed.
func areWithin(l []int, width int) bool {
	for _, n := range l {
		if !isWithin(n, width) {
			return false
		}
	}
	return true
}

// isWithin says whether so many bits hold n, signed. What is left above the last width less 1 bits of such a number is its sign alone.
func isWithin(n, width int) bool {
	if width == 0 {
		return n == 0
	}
	sign := n >> (width - 1)
	return sign == 0 || sign == -1
}

// writeHead writes what stands ahead of the numbers of the partition i.
func writeHead(w *bits.Writer, r api.Rice, i int) {
	width := paramWidth(r.Method)
	if r.Escapes[i] == coded {
		w.Put(uint64(r.Params[i]), width)
		return
	}
	w.Put(uint64(mark(r.Method)), width)
	w.Put(uint64(r.Escapes[i]), escapeWidth)
}

// writePart writes the numbers of the partition i.
func writePart(w *bits.Writer, r api.Rice, i int, part []int) {
	for _, n := range part {
		switch escape := r.Escapes[i]; escape {
		case coded:
			w.Rice(n, r.Params[i])
		case 0: // the number is 0, and has no bits
		default:
			w.Signed(n, escape)
		}
	}
}
