// Package bits is layer 1: bits there and back, the highest of a byte first, with unary and Rice codes. See shared/doc/01-bits.md.
package bits

// The greatest numbers that widths, unary codes and Rice parameters may be.
const (
	maxWidth = 64
	maxUnary = 1 << 24
	maxRice  = 30
)

// folded is twice n, or twice -n less 1 of an n below 0. It shifts instead of negating, for the smallest int has no -n.
func folded(n int) uint64 {
	return uint64(n)<<1 ^ uint64(n>>63)
}

// unfolded is the n whose folded number u is.
func unfolded(u uint64) int {
	return int(u>>1) ^ -int(u&1)
}
