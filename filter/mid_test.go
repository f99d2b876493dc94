package filter_test

import (
	"math"
	"testing"

	"lacquer/filter"
)

// Promise 17.2.

// greatest is numbers at the ends of what an int is, and near nought.
func greatest() []int {
	return []int{math.MinInt, math.MinInt + 1, math.MinInt/2 - 1, math.MinInt / 2, math.MinInt32, -3, -2, -1, 0, 1, 2, 3, math.MaxInt32, math.MaxInt / 2, math.MaxInt/2 + 1, math.MaxInt - 1, math.MaxInt}
}

func TestMidExamples(t *testing.T) {
	m, s := filter.Mid([]int{3}, []int{0})
	isTwo(t, "Mid(3, 0)", m, s, []int{1}, []int{3})
	m, s = filter.Mid([]int{-1}, []int{0})
	isTwo(t, "Mid(-1, 0)", m, s, []int{-1}, []int{-1})
	a, b := filter.Unmid([]int{1, -1}, []int{3, -1})
	isTwo(t, "Unmid(1 -1, 3 -1)", a, b, []int{3, -1}, []int{0, 0})
}

func TestMidByHand(t *testing.T) {
	for _, c := range [][4]int{
		{0, 0, 0, 0}, {5, 5, 5, 0}, {0, 3, 1, -3}, {0, 1, 0, -1}, {1, 0, 0, 1}, {-3, 0, -2, -3}, {-4, 0, -2, -4}, {10, -5, 2, 15}, {-5, 10, 2, -15},
		{math.MaxInt, math.MaxInt, math.MaxInt, 0}, {math.MaxInt, 0, math.MaxInt / 2, math.MaxInt}, {math.MinInt, 0, math.MinInt / 2, math.MinInt},
		// The difference goes past an int: it is -1 or 1, and so is the middle near an end, not near nought.
		{math.MaxInt, math.MinInt, math.MaxInt, -1}, {math.MinInt, math.MaxInt, math.MaxInt, 1}, {math.MaxInt, -1, math.MinInt/2 - 1, math.MinInt},
		{-2, math.MaxInt, math.MinInt/2 - 2, math.MaxInt},
	} {
		m, s := filter.Mid(c[:1], c[1:2])
		isTwo(t, "Mid", m, s, c[2:3], c[3:])
		a, b := filter.Unmid(c[2:3], c[3:])
		isTwo(t, "Unmid", a, b, c[:1], c[1:2])
		isMid(t, c[:1], c[1:2])
	}
}

// Every two numbers of the ends, as numbers of any size have it, cut to an int.
func TestMidOfGreatest(t *testing.T) {
	var first, second []int
	for _, a := range greatest() {
		for _, b := range greatest() {
			first, second = append(first, a), append(second, b)
		}
	}
	isMid(t, first, second)
	isUnmid(t, first, second)
}

// Lists of different lengths: as many places as the shorter one has.
func TestMidOfLengths(t *testing.T) {
	r := numbers(1721)
	for _, count := range []int{0, 1, 2, 3, 17, 500} {
		for _, more := range []int{0, 1, 2, 400} {
			l, long := r.list(count, 64), r.list(count+more, 64)
			isMid(t, l, long)
			isMid(t, long, l)
			isUnmid(t, l, long)
			isUnmid(t, long, l)
		}
	}
	for _, l := range [][]int{nil, {}, {4}, {1, 2, 3}} {
		for _, none := range [][]int{nil, {}} {
			m, s := filter.Mid(l, none)
			isTwo(t, "Mid of none", m, s, nil, nil)
			m, s = filter.Mid(none, l)
			isTwo(t, "Mid of none", m, s, nil, nil)
			m, s = filter.Unmid(l, none)
			isTwo(t, "Unmid of none", m, s, nil, nil)
			m, s = filter.Unmid(none, l)
			isTwo(t, "Unmid of none", m, s, nil, nil)
		}
	}
}

func TestMidOfMany(t *testing.T) {
	r := numbers(1722)
	for range 400 {
		width := 1 + r.below(64)
		a, b := r.list(r.below(60), width), r.list(r.below(60), width)
		isMid(t, a, b)
		isUnmid(t, a, b)
	}
}
