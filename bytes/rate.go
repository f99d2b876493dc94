package bytes

import (
	mathbits "math/bits"

	"lacquer/api"
)

// How a rate's bytes are laid: the exponent with its bias ahead, then the number drawn up to the top of its bytes.
const (
	exponentBytes = 2
	drawnBytes    = 8
	rateBytes     = exponentBytes + drawnBytes
	exponentBias  = 16383
	topBit        = 63
)

// Rate is n as a rate's bytes.
func Rate(n int) (string, api.Errno) {
	if n < 1 || n > api.MaxRate {
		return "", api.ErrWidth
	}
	exponent := mathbits.Len(uint(n)) - 1
	head := highFirst(uint64(exponentBias+exponent), exponentBytes)
	return head + highFirst(uint64(n)<<(topBit-exponent), drawnBytes), api.OK
}

// FromRate is the n whose Rate s is.
func FromRate(s string) (int, api.Errno) {
	if len(s) != rateBytes {
		return 0, api.ErrMalformed
	}
	exponent := int(fromHighFirst(s[:exponentBytes])) - exponentBias
	if exponent < 0 || exponent > topBit {
		return 0, api.ErrUnsupported
	}
	n := asInt(fromHighFirst(s[exponentBytes:]) >> (topBit - exponent))
	// Writing it again tells all that may be wrong at once: bits below 1, a top bit 0, a rate past the limit.
	if again, errno := Rate(n); errno != api.OK || again != s {
		return 0, api.ErrUnsupported
	}
	return n, api.OK
}
