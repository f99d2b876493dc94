package bytes

import (
	mathbits "math/bits"

	"lacquer/api"
)

// The bits of a coded number's bytes behind the first: 128 and six bits of the number.
const (
	tailMark = 0x80
	tailBits = 6
	tailMask = 1<<tailBits - 1
)

// Past the greatest coded number, and past that of one byte.
const (
	codedEnd = 1 << 36
	aloneEnd = 1 << 7
)

// Coded is n as a coded number.
func Coded(n int) (string, api.Errno) {
	if n < 0 || n >= codedEnd {
		return "", api.ErrWidth
	}
	count := codedLen(n)
	s := make([]byte, count)
	for i := range count {
		s[count-1-i] = byte(tailMark | n>>(tailBits*i)&tailMask)
	}
	s[0] = byte(headMark(count) | n>>(tailBits*(count-1)))
	return string(s), api.OK
}

// Uncoded is the coded number with which s begins, and how many bytes it has.
func Uncoded(s string) (int, int, api.Errno) {
	if s == "" {
		return 0, 0, api.ErrEnd
	}
	count := headCount(s[0])
	if count == 0 {
		return 0, 0, api.ErrMalformed
	}
	n := int(s[0]) ^ headMark(count)
	for i := 1; i < count; i++ {
		if i == len(s) {
			return 0, 0, api.ErrEnd
		}
		if s[i]&^tailMask != tailMark {
			return 0, 0, api.ErrMalformed
		}
		n = n<<tailBits | int(s[i]&tailMask)
	}
	if codedLen(n) < count {
		return 0, 0, api.ErrMalformed
	}
	return n, count, api.OK
}

// codedLen is how many bytes n, which may be coded, has as a coded number.
func codedLen(n int) int {
	if n < aloneEnd {
		return 1
	}
	count := 2
	for n>>(5*count+1) != 0 {
		count++
	}
	return count
}

// headMark is what the first of count bytes has at its top: as many bits 1; of one byte none.
func headMark(count int) int {
	if count == 1 {
		return 0
	}
	return int(byte(0xff) << (8 - count))
}

// headCount is how many bytes a coded number with this first byte has; 0 if none begins so.
func headCount(first byte) int {
	switch ones := mathbits.LeadingZeros8(^first); ones {
	case 0:
		return 1
	case 1, 8:
		return 0
	default:
		return ones
	}
}
