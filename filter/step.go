package filter

import "math"

// step is one filter of a chain: it foretells the next number, and then sees which one came, and what it had left over of it.
type step interface {
	foretell() int
	see(x, rest int)
}

// last is the first step of a chain: it foretells the last number, a little nearer to 0.
type last struct {
	x int
}

// foretell shifts instead of dividing, for a division of ints goes towards 0, not downwards; so does that of taps.
func (l *last) foretell() int {
	return (l.x * 31) >> 5
}

func (l *last) see(x, rest int) {
	l.x = x
}

// taps is a filter with a weight for each of the last numbers, the newest first.
type taps struct {
	weights []int16
	numbers []int16 // cut to 16 bits
	pulls   []int16 // what a number adds to its weight, if something above 0 is left over
}

// pull is how far a weight moves at once.
const pull = 8

// newTaps is a filter of so many taps that has seen no number yet.
func newTaps(count int) *taps {
	return &taps{make([]int16, count), make([]int16, count), make([]int16, count)}
}

func (t *taps) foretell() int {
	sum := 0
	for i, w := range t.weights {
		sum += int(w) * int(t.numbers[i])
	}
	return sum >> 13
}

func (t *taps) see(x, rest int) {
	switch sign(rest) {
	case 1:
		for i, p := range t.pulls {
			t.weights[i] += p
		}
	case -1:
		for i, p := range t.pulls {
			t.weights[i] -= p
		}
	}
	push(t.numbers, int16(min(max(x, math.MinInt16), math.MaxInt16)))
	push(t.pulls, int16(pull*sign(x)))
}

// push puts n ahead of all numbers of l, and lets go of the last one.
func push(l []int16, n int16) {
	copy(l[1:], l)
	l[0] = n
}

// sign is -1, 0 or 1, as n is below 0, 0, or above.
func sign(n int) int {
	switch {
	case n < 0:
		return -1
	case n > 0:
		return 1
	}
	return 0
}
