package rice

// The greatest numbers that bits.Rice takes: a parameter, and the bits 0 of a code.
const (
	maxParam = 30
	maxZeros = 1 << 24
)

// none stands for the bits of what cannot be coded.
const none = -1

// Cost is how many bits the Rice codes of l with the parameter k have together.
func Cost(l []int, k int) int {
	if k < 0 || k > maxParam {
		return none
	}
	sum := 0
	for _, n := range l {
		zeros := folded(n) >> k
		if zeros > maxZeros {
			return none
		}
		sum += int(zeros) + 1 + k
	}
	return sum
}

// folded is twice n, or twice -n less 1 of an n below 0. It shifts instead of negating, for the smallest int has no -n.
func folded(n int) uint64 {
	return uint64(n)<<1 ^ uint64(n>>63)
}
