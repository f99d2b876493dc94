package subframe

import (
	"lacquer/api"
	"lacquer/bits"
	"lacquer/predict"
	"lacquer/rice"
)

// In how many bits the parts of a predictor stand.
const (
	precisionWidth = 4
	shiftWidth     = 5
)

// Encode writes the samples l as the Sub says. They are written to a draft first, for rice.Encode alone knows whether it takes the residuals, and beside an error w may get nothing.
func Encode(w *bits.Writer, s api.Sub, width int, l []int) api.Errno {
	if w == nil {
		return api.ErrArg
	}
	if e := Check(s, len(l), width); e != api.OK {
		return e
	}
	if !fit(s, width, l) {
		return api.ErrRecipe
	}
	draft := bits.New()
	writeHead(draft, s)
	if !writeBody(draft, s, width-s.Wasted, divided(l, s.Wasted)) {
		return api.ErrRecipe
	}
	pour(w, draft)
	return api.OK
}

// fit says whether the samples are such as the Sub can tell, what its predictor leaves over aside.
func fit(s api.Sub, width int, l []int) bool {
	for _, n := range l {
		if n&(1<<s.Wasted-1) != 0 || s.Kind == api.SubConstant && n != l[0] {
			return false
		}
	}
	return areWithin(l, width)
}

// divided is each number of l without its wasted bits. Up to 32 may be wasted, one more than predict.Shift takes away.
func divided(l []int, wasted int) []int {
	less := make([]int, len(l))
	for i, n := range l {
		less[i] = n >> wasted
	}
	return less
}

// writeBody writes the samples l, which have so many bits. Both kinds with a predictor begin with the samples that it starts from; then one of them falls through to the other.
func writeBody(w *bits.Writer, s api.Sub, width int, l []int) bool {
	writeEach(w, l[:asTheyAre(s, len(l))], width)
	switch s.Kind {
	case api.SubLpc:
		w.Put(uint64(s.Precision-1), precisionWidth)
		w.Put(uint64(s.Shift), shiftWidth)
		writeEach(w, s.Coefs, s.Precision)
		fallthrough
	case api.SubFixed:
		rest, e := leftOver(s, l)
		return e == api.OK && rice.Encode(w, s.Rice, len(l), s.Order, rest) == api.OK
	}
	return true
}

// writeEach writes each number, signed, in so many bits, which hold it.
func writeEach(w *bits.Writer, l []int, width int) {
	for _, n := range l {
		w.Signed(n, width)
	}
}

// leftOver is what the Sub's predictor leaves over of l.
func leftOver(s api.Sub, l []int) ([]int, api.Errno) {
	if s.Kind == api.SubFixed {
		return predict.Fixed(s.Order, l)
	}
	return predict.Lpc(s.Coefs, s.Shift, l)
}

// pour writes all bits of the draft to w.
func pour(w, draft *bits.Writer) {
	x := bits.Of(draft.Bytes())
	for left := draft.Len(); left > 0; {
		part := min(left, 64)
		n, _ := x.Get(part)
		w.Put(n, part)
		left -= part
	}
}
