package sums

// registerWidth is how many bits a register has.
const registerWidth = 32

// The kinds of sums.
const (
	kindCrc8  = 8
	kindCrc16 = 16
	kindOgg   = 32
	kindCrc32 = 33
)

// rule is what makes a kind of sum.
type rule struct {
	kind, width int
	polynomial  uint32
	low         bool   // the lowest bit of a byte first
	turn        uint32 // what a register begins with, and what it is turned by at the end
}

var rules = [...]rule{
	{kindCrc8, 8, 0x07, false, 0},
	{kindCrc16, 16, 0x8005, false, 0},
	{kindOgg, 32, 0x04C11DB7, false, 0},
	{kindCrc32, 32, 0xEDB88320, true, 0xFFFFFFFF},
}

// ruleOf is a kind's rule; false, if there is no such kind.
func ruleOf(kind int) (rule, bool) {
	for _, r := range rules {
		if r.kind == kind {
			return r, true
		}
	}
	return rule{}, false
}

// table is what each byte makes of a register of 0. Only the bytes of one bit are worked out bit by bit: a sum of two bytes xor each other is their sums xor each other, and so a table costs little even where a text is short.
func (r rule) table() [256]uint32 {
	var t [256]uint32
	for i := range len(t) {
		rest := i & (i - 1)
		if rest == 0 {
			t[i] = r.moved(uint32(i))
		} else {
			t[i] = t[rest] ^ t[i^rest]
		}
	}
	return t
}

// moved is what a byte makes of a register of 0, bit by bit.
func (r rule) moved(c uint32) uint32 {
	if r.low {
		return r.movedLow(c)
	}
	return r.movedHigh(c << (registerWidth - 8))
}

// movedHigh is a register moved on by 8 bits, its highest first.
func (r rule) movedHigh(c uint32) uint32 {
	for range 8 {
		out := c >> (registerWidth - 1)
		c = c<<1 ^ out*(r.polynomial<<(registerWidth-r.width))
	}
	return c
}

// movedLow is a register moved on by 8 bits, its lowest first.
func (r rule) movedLow(c uint32) uint32 {
	for range 8 {
		out := c & 1
		c = c>>1 ^ out*r.polynomial
	}
	return c
}
