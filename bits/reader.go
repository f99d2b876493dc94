package bits

import (
	mathbits "math/bits"

	"lacquer/api"
)

// place is where a reader is, in bits. It is a value of its own, so that a reader that fails halfway can be put back.
type place struct {
	at, end int
}

func (p *place) passed() int { return p.at }

func (p *place) rest() int { return p.end - p.at }

func (p *place) pass(width int) { p.at += width }

// Reader reads the bits of a text from its place on.
type Reader struct {
	place
	text string
}

// Of is a reader at the beginning of s.
func Of(s string) *Reader {
	return &Reader{place: place{end: 8 * len(s)}, text: s}
}

// Get is the next width bits as a number.
func (r *Reader) Get(width int) (uint64, api.Errno) {
	if r == nil {
		return 0, api.ErrArg
	}
	if width < 0 || width > maxWidth {
		return 0, api.ErrWidth
	}
	if r.rest() < width {
		return 0, api.ErrEnd
	}
	return r.take(width), api.OK
}

// Signed is the next width bits as a number in two's complement.
func (r *Reader) Signed(width int) (int, api.Errno) {
	if r == nil {
		return 0, api.ErrArg
	}
	if width < 1 || width > maxWidth {
		return 0, api.ErrWidth
	}
	n, errno := r.Get(width)
	if errno != api.OK {
		return 0, errno
	}
	// Up to the top and down again, the sign is drawn along.
	above := maxWidth - width
	return int(int64(n<<above) >> above), api.OK
}

// Unary is how many bits 0 stand ahead of the next bit 1.
func (r *Reader) Unary() (int, api.Errno) {
	if r == nil {
		return 0, api.ErrArg
	}
	n := r.zeros()
	if n > maxUnary {
		return 0, api.ErrWidth
	}
	if n == r.rest() {
		return 0, api.ErrEnd
	}
	r.pass(n + 1)
	return n, api.OK
}

// Rice is the number whose Rice code with the parameter k is next.
func (r *Reader) Rice(k int) (int, api.Errno) {
	if r == nil {
		return 0, api.ErrArg
	}
	if k < 0 || k > maxRice {
		return 0, api.ErrWidth
	}
	start := r.place
	high, errno := r.Unary()
	if errno != api.OK {
		return 0, errno
	}
	low, errno := r.Get(k)
	if errno != api.OK {
		r.place = start
		return 0, errno
	}
	return unfolded(uint64(high)<<k | low), api.OK
}

// Align goes on to a whole byte, and tells whether all that it passed over is 0.
func (r *Reader) Align() (bool, api.Errno) {
	if r == nil {
		return false, api.ErrArg
	}
	// A text ends at a whole byte, so that these bits are always there.
	return r.take(-r.passed()&7) == 0, api.OK
}

// At is how many bits were passed.
func (r *Reader) At() int {
	if r == nil {
		return 0
	}
	return r.passed()
}

// Left is how many bits are left.
func (r *Reader) Left() int {
	if r == nil {
		return 0
	}
	return r.rest()
}

// take is the next width bits, which are there, as a number.
func (r *Reader) take(width int) uint64 {
	var n uint64
	for width > 0 {
		room := 8 - r.passed()&7
		part := min(room, width)
		next := uint64(r.text[r.passed()>>3]) >> (room - part)
		n = n<<part | next&(1<<part-1)
		r.pass(part)
		width -= part
	}
	return n
}

// zeros is how many bits 0 stand ahead of the next bit 1 or of the end. It looks no further than it must to see that they are too many.
func (r *Reader) zeros() int {
	n := 0
	for n <= maxUnary && n < r.rest() {
		at := r.passed() + n
		room := 8 - at&7
		ahead := mathbits.LeadingZeros8(r.text[at>>3] << (8 - room))
		if ahead < room {
			return n + ahead
		}
		n += room
	}
	return n
}
