package predict

import (
	"math/bits"

	"lacquer/api"
)

// Wasted is how many bits at the low end of all numbers of l are 0, up to maxShift; 0, if they have no others.
func Wasted(l []int) int {
	all := gathered(l)
	if all == 0 {
		return 0
	}
	return min(bits.TrailingZeros(all), maxShift)
}

// Shift is the numbers of l, each divided by 2^by, which must divide them.
func Shift(l []int, by int) ([]int, api.Errno) {
	if !isShift(by) || gathered(l)&(1<<by-1) != 0 {
		return nil, api.ErrArg
	}
	less := make([]int, len(l))
	for i, n := range l {
		less[i] = n >> by
	}
	return less, api.OK
}

// Unshift is the numbers of l, each times 2^by.
func Unshift(l []int, by int) ([]int, api.Errno) {
	if !isShift(by) {
		return nil, api.ErrArg
	}
	more := make([]int, len(l))
	for i, n := range l {
		more[i] = n << by
	}
	return more, api.OK
}

// gathered has each bit that a number of l has: a power of 2 divides all of them just if it divides this.
func gathered(l []int) uint {
	var all uint
	for _, n := range l {
		all |= uint(n)
	}
	return all
}
