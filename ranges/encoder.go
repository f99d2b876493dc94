package ranges

import "lacquer/api"

// Encoder makes a text of parts that are put into it, one behind the other.
type Encoder struct {
	low   uint64 // of 33 bits: the highest one is carried into the bytes ahead
	span  uint32 // the range
	held  byte   // the last byte that may still grow by what is carried
	count int    // how many bytes are not written yet: the held one, and those of 255 behind it, through which what is carried goes
	text  []byte
}

// New is an encoder that nothing was put into.
func New() *Encoder {
	e := &Encoder{}
	e.begin()
	return e
}

// begin makes the encoder as New gives it.
func (e *Encoder) begin() {
	*e = Encoder{span: wholeRange, count: 1}
}

// Put puts the part of size numbers from from on, of total ones.
func (e *Encoder) Put(from, size, total int) api.Errno {
	if e == nil || !isPart(from, size, total) {
		return api.ErrArg
	}
	if e.span == 0 {
		// Else an encoder that New did not give would have a range that never becomes great enough.
		e.begin()
	}
	one := e.span / uint32(total)
	e.low += uint64(one) * uint64(from)
	e.span = widened(one*uint32(size), e.shift)
	return api.OK
}

// Bits puts a number of so many bits.
func (e *Encoder) Bits(n, width int) api.Errno {
	if e == nil || !isWidth(width) {
		return api.ErrArg
	}
	return e.Put(n, 1, 1<<width)
}

// Finish is the text of all that was put; the encoder begins anew behind it.
func (e *Encoder) Finish() string {
	if e == nil {
		return ""
	}
	for range 5 {
		e.shift()
	}
	text := string(e.text)
	e.begin()
	return text
}

// shift moves the highest byte out of low. While a later carry may still go through that byte, it is only counted.
func (e *Encoder) shift() {
	if e.low < 255<<24 || e.low >= 1<<32 {
		e.write(byte(e.low >> 32))
		e.count = 0
		e.held = byte(e.low >> 24)
	}
	e.count++
	e.low = e.low % (1 << 24) << 8
}

// write writes the bytes that are not written yet, with what is carried into them.
func (e *Encoder) write(carried byte) {
	e.text = append(e.text, e.held+carried)
	for range e.count - 1 {
		e.text = append(e.text, 255+carried)
	}
}
