package predict

import "lacquer/api"

// How far from 0 the numbers may lie that Stereo and Unstereo take.
const (
	maxPlain = 1 << 40
	maxCoded = 1 << 42
)

// Stereo is the two channels a and b as the mode codes them.
func Stereo(mode int, a, b []int) ([]int, []int, api.Errno) {
	if !areTwo(mode, a, b, maxPlain) {
		return nil, nil, api.ErrArg
	}
	c, d := make([]int, len(a)), make([]int, len(a))
	for i := range a {
		c[i], d[i] = coded(mode, a[i], b[i])
	}
	return c, d, api.OK
}

// Unstereo is the two channels that the mode codes as a and b.
func Unstereo(mode int, a, b []int) ([]int, []int, api.Errno) {
	if !areTwo(mode, a, b, maxCoded) {
		return nil, nil, api.ErrArg
	}
	c, d := make([]int, len(a)), make([]int, len(a))
	for i := range a {
		c[i], d[i] = uncoded(mode, a[i], b[i])
	}
	return c, d, api.OK
}

// areTwo says whether there is such a mode, and a and b are as long and go no farther than this.
func areTwo(mode int, a, b []int, far int) bool {
	return mode >= api.ModeAlone && mode <= api.ModeMid &&
		len(a) == len(b) && areNear(a, far) && areNear(b, far)
}

// areNear says whether all numbers of l lie from -far to far.
func areNear(l []int, far int) bool {
	for _, n := range l {
		if n < -far || n > far {
			return false
		}
	}
	return true
}

// coded is what the mode has of a number of either channel.
func coded(mode, a, b int) (int, int) {
	switch mode {
	case api.ModeLeft:
		return a, a - b
	case api.ModeRight:
		return a - b, b
	case api.ModeMid:
		return (a + b) >> 1, a - b
	}
	return a, b
}

// uncoded is the numbers of both channels of which the mode has a and b.
//
// Half of a sum has lost whether the sum was odd; the difference is odd just if the sum is.
func uncoded(mode, a, b int) (int, int) {
	switch mode {
	case api.ModeLeft:
		return a, a - b
	case api.ModeRight:
		return a + b, b
	case api.ModeMid:
		sum := 2*a + b&1
		return (sum + b) >> 1, (sum - b) >> 1
	}
	return a, b
}
