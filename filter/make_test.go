package filter_test

import (
	"math"
	"slices"
)

// Rows that the tests send through chains.

// ahead is the numbers of which the first step of a chain leaves rests over: so what comes behind the first step can be asked alone.
func ahead(rests []int) []int {
	l, last := []int{}, 0
	for _, rest := range rests {
		last = modulo(rest+downwards(last*31, 32), 32)
		l = append(l, last)
	}
	return l
}

// still is so many times n.
func still(n, count int) []int { return slices.Repeat([]int{n}, count) }

// swinging is so many numbers of n, and n with the other sign, in turns.
func swinging(n, count int) []int {
	l := still(n, count)
	for i := 1; i < count; i += 2 {
		l[i] = -n
	}
	return l
}

// beats is 0 all along, but n at these places.
func beats(n, count int, places ...int) []int {
	l := still(0, count)
	for _, i := range places {
		l[i] = n
	}
	return l
}

// waves is two sines as loud as n together, with a little noise.
func waves(n, count int, seed uint64) []int {
	r := numbers(seed)
	l := make([]int, count)
	for i := range l {
		x := 0.6*math.Sin(float64(i)*0.031) + 0.4*math.Sin(float64(i)*0.43)
		l[i] = int(x*float64(n)) + r.below(n/100+3) - n/200 - 1
	}
	return l
}

// edges is so many numbers of those next to which something changes.
func edges(count int, seed uint64) []int {
	all := []int{0, 0, 1, -1, 32766, 32767, 32768, -32767, -32768, -32769, 65536, -65536, 8192, -8192, math.MaxInt32, math.MaxInt32 - 1, math.MinInt32, math.MinInt32 + 1}
	r := numbers(seed)
	l := make([]int, count)
	for i := range l {
		l[i] = all[r.below(len(all))]
	}
	return l
}

// ofFormula is so many numbers as a formula has them.
func ofFormula(count int, formula func(n int) int) []int {
	l := make([]int, count)
	for i := range l {
		l[i] = formula(i)
	}
	return l
}
