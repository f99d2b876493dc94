package ranges

import "lacquer/api"

// Decoder takes the parts out of a text that were put into it, one behind the other.
type Decoder struct {
	text string
	used int // how many bytes of the text were taken
	code uint32
	span uint32 // the range
	fit  bool   // neither is the beginning refused, nor did a byte lack
}

// Of is a decoder of a text's beginning.
func Of(s string) *Decoder {
	if len(s) < 5 || s[0] != 0 {
		return &Decoder{}
	}
	d := &Decoder{text: s, span: wholeRange, fit: true}
	for range 5 {
		d.next()
	}
	return d
}

// next moves the next byte into the code.
func (d *Decoder) next() {
	if d.used == len(d.text) {
		d.fit = false
		return
	}
	d.code = d.code<<8 | uint32(d.text[d.used])
	d.used++
}

// Peek is the number below total that the next part holds.
func (d *Decoder) Peek(total int) (int, api.Errno) {
	if d == nil || !isTotal(total) {
		return 0, api.ErrArg
	}
	if !d.fit {
		return 0, api.ErrMalformed
	}
	// A code that no encoder tells may be past the last number.
	return min(int(d.code/(d.span/uint32(total))), total-1), api.OK
}

// Take takes the part of size numbers from from on, of total ones, which must hold what Peek tells.
func (d *Decoder) Take(from, size, total int) api.Errno {
	if d == nil || !isPart(from, size, total) {
		return api.ErrArg
	}
	n, errno := d.Peek(total)
	if errno != api.OK {
		return errno
	}
	if n < from || n >= from+size {
		return api.ErrMalformed
	}
	one := d.span / uint32(total)
	behind := *d
	behind.code -= one * uint32(from)
	behind.span = widened(one*uint32(size), behind.next)
	if !behind.fit {
		// A Take that answers an error has taken no byte; but there is no way on.
		d.fit = false
		return api.ErrMalformed
	}
	*d = behind
	return api.OK
}

// Bits takes a number of so many bits.
func (d *Decoder) Bits(width int) (int, api.Errno) {
	if d == nil || !isWidth(width) {
		return 0, api.ErrArg
	}
	n, errno := d.Peek(1 << width)
	if errno != api.OK {
		return 0, errno
	}
	if errno := d.Take(n, 1, 1<<width); errno != api.OK {
		return 0, errno
	}
	return n, api.OK
}

// Used is how many bytes of the text were taken; 0, if its beginning is refused.
func (d *Decoder) Used() int {
	if d == nil {
		return 0
	}
	return d.used
}
