package frame

import (
	"lacquer/api"
	"lacquer/bits"
	"lacquer/bytes"
	"lacquer/sums"
)

// What a frame begins with, the bit 0 behind it among it; and how many bits stand ahead of Number.
const (
	mark       = 0b111111111111100
	markWidth  = 15
	codesWidth = 32
)

// head is what stands ahead of the subframes, as its bits have it.
type head struct {
	variable                                bool
	sizeCode, rateCode, channels, widthCode int // the codes
	number                                  int
	size, rate                              int // what stands behind Number; 0, where the codes ask for nothing
}

// writeHead writes the head of a frame that Check takes.
func writeHead(w *bits.Writer, f api.Frame, info api.StreamInfo) {
	w.Put(mark, markWidth)
	w.Put(bitOf(f.Variable), 1)
	w.Put(uint64(f.SizeCode), 4)
	w.Put(uint64(f.RateCode), 4)
	w.Put(uint64(channelsCode(info.Channels, f.Mode)), 4)
	w.Put(uint64(f.WidthCode), 3)
	w.Put(0, 1)
	writeNumber(w, f.Number)
	if n := sizeBytes(f.SizeCode); n > 0 {
		w.Put(uint64(f.Size-1), 8*n)
	}
	if n := rateBytes(f.RateCode); n > 0 {
		w.Put(uint64(info.Rate/rateUnit(f.RateCode)), 8*n)
	}
	w.Put(uint64(sums.Crc8(w.Bytes())), 8)
}

// bitOf is 1 of true.
func bitOf(b bool) uint64 {
	if b {
		return 1
	}
	return 0
}

// writeNumber writes n as a coded number.
func writeNumber(w *bits.Writer, n int) {
	text, _ := bytes.Coded(n)
	for i := range len(text) {
		w.Put(uint64(text[i]), 8)
	}
}

// readHead reads the head with which s begins, of which x is the reader; false, if it ends, its Crc8 is another one, or a bit or Number is against the form. What its codes say is not looked at: they may be spoilt as long as the Crc8 was not seen.
func readHead(x *bits.Reader, s string) (head, bool) {
	var h head
	if !readCodes(x, &h) || !readNumber(x, s, &h) || !readBehind(x, &h) || !readSum(x, s, 8, sums.Crc8) {
		return head{}, false
	}
	return h, true
}

// readCodes reads what stands ahead of Number; false, if a bit that must be so is not.
func readCodes(x *bits.Reader, h *head) bool {
	if x.Left() < codesWidth {
		return false
	}
	begun := next(x, markWidth) == mark
	h.variable = next(x, 1) == 1
	h.sizeCode = next(x, 4)
	h.rateCode = next(x, 4)
	h.channels = next(x, 4)
	h.widthCode = next(x, 3)
	return next(x, 1) == 0 && begun
}

// next is the next bits, which are there.
func next(x *bits.Reader, width int) int {
	n, _ := x.Get(width)
	return int(n)
}

// readNumber reads Number, which stands in s where x has come to.
func readNumber(x *bits.Reader, s string, h *head) bool {
	n, count, e := bytes.Uncoded(s[x.At()/8:])
	if e != api.OK {
		return false
	}
	h.number = n
	next(x, 8*count)
	return true
}

// readBehind reads what the codes ask for behind Number.
func readBehind(x *bits.Reader, h *head) bool {
	size, rate := 8*sizeBytes(h.sizeCode), 8*rateBytes(h.rateCode)
	if x.Left() < size+rate {
		return false
	}
	h.size = next(x, size)
	h.rate = next(x, rate)
	return true
}

// readSum reads a sum of so many bits of all of s that x has passed, and says whether it is the one that stands there.
func readSum(x *bits.Reader, s string, width int, sumOf func(string) int) bool {
	ahead := s[:x.At()/8]
	n, e := x.Get(width)
	return e == api.OK && int(n) == sumOf(ahead)
}

// frame is the frame that the head tells, without its Subs. Its size is looked at first, for it alone has an error of its own, which hides those of the other fields.
func (h head) frame(info api.StreamInfo) (api.Frame, api.Errno) {
	channels, mode := channelsSaid(h.channels)
	f := api.Frame{
		Variable:  h.variable,
		Number:    h.number,
		Size:      sizeSaid(h.sizeCode, h.size),
		SizeCode:  h.sizeCode,
		RateCode:  h.rateCode,
		WidthCode: h.widthCode,
		Mode:      mode,
	}
	if f.Size > api.MaxBlock {
		return api.Frame{}, api.ErrUnsupported
	}
	same := channels == info.Channels &&
		rateSaid(h.rateCode, h.rate, info.Rate) == info.Rate &&
		widthSaid(h.widthCode, info.Width) == info.Width
	if !same || !fits(f, info) {
		return api.Frame{}, api.ErrMalformed
	}
	return f, api.OK
}
