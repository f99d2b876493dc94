package predict_test

import (
	"math"
	"slices"
	"testing"

	"lacquer/api"
	"lacquer/predict"
)

// Promise 9.3.

// isWasted fails, unless Wasted answers this.
func isWasted(t *testing.T, want int, l ...int) {
	t.Helper()
	if n := predict.Wasted(l); n != want {
		t.Errorf("Wasted(%s): %d, not %d", short(l), n, want)
	}
}

// isShift fails, unless Shift answers what the chapter says, and Unshift gives l back.
func isShift(t *testing.T, l []int, by int) {
	t.Helper()
	less, e := predict.Shift(l, by)
	if by < 0 || by > 31 || !divides(l, by) {
		isList(t, "Shift", less, e, nil, api.ErrArg)
		return
	}
	var want []int
	for _, n := range l {
		want = append(want, downwards(n, by))
	}
	isList(t, "Shift", less, e, want, api.OK)
	back, e := predict.Unshift(less, by)
	isList(t, "Unshift", back, e, l, api.OK)
}

func TestExamplesOfWasted(t *testing.T) {
	isWasted(t, 2, 4, 8, -12)
	isWasted(t, 0, 0)
	l, e := predict.Shift([]int{1}, 1)
	isList(t, "Shift(1, 1)", l, e, nil, api.ErrArg)
}

func TestWasted(t *testing.T) {
	isWasted(t, 0)
	isWasted(t, 0, 0, 0, 0, 0)
	isWasted(t, 0, 1)
	isWasted(t, 0, -1)
	isWasted(t, 1, 2)
	isWasted(t, 1, -2)
	isWasted(t, 0, 1<<20, 1<<10, 3)
	isWasted(t, 0, 3, 1<<20, 1<<10)
	isWasted(t, 10, 1<<20, 1<<10, 1<<12)
	isWasted(t, 3, 0, 8, 0)
	isWasted(t, 3, 0, 0, -8)
	isWasted(t, 1, 2, 4)
	isWasted(t, 1, 4, 2)
	isWasted(t, 1, 6, 10, -14)
	for n := range 64 {
		isWasted(t, min(n, 31), 1<<n)
		isWasted(t, min(n, 31), -1<<n)
		isWasted(t, min(n, 31), 0, 3<<n, 0)
		isWasted(t, min(n, 31), math.MinInt, 1<<n)
		isWasted(t, min(n, 5), 1<<n, 32)
	}
	isWasted(t, 31, math.MinInt)
	isWasted(t, 31, math.MinInt, math.MinInt, 0)
	isWasted(t, 31, 1<<31, 1<<40)
	isWasted(t, 31, 1<<32)
	isWasted(t, 30, 1<<30, 1<<40)
	isWasted(t, 0, math.MaxInt)
	isWasted(t, 0, math.MinInt+1)
}

func TestManyWasted(t *testing.T) {
	r := numbers(931)
	for range 5000 {
		l := r.list(r.below(9), 1+r.below(64))
		up := r.below(64)
		for i := range l {
			l[i] <<= up
		}
		want := wastedModel(l)
		isWasted(t, want, l...)
		isShift(t, l, want)
		isShift(t, l, want+1)
		isShift(t, l, r.below(34)-1)
	}
}

func TestShift(t *testing.T) {
	l, e := predict.Shift([]int{4, 8, -12}, 2)
	isList(t, "Shift(4 8 -12, 2)", l, e, []int{1, 2, -3}, api.OK)
	l, e = predict.Shift([]int{4, 8, -12}, 1)
	isList(t, "Shift(4 8 -12, 1)", l, e, []int{2, 4, -6}, api.OK)
	l, e = predict.Shift([]int{4, 8, -12}, 0)
	isList(t, "Shift(4 8 -12, 0)", l, e, []int{4, 8, -12}, api.OK)
	l, e = predict.Shift([]int{4, 8, -12}, 3)
	isList(t, "Shift(4 8 -12, 3)", l, e, nil, api.ErrArg)
	l, e = predict.Shift([]int{math.MinInt}, 31)
	isList(t, "Shift(least, 31)", l, e, []int{-1 << 32}, api.OK)
	l, e = predict.Shift([]int{math.MinInt, 0, 1 << 62, 1 << 31, -1 << 31}, 31)
	isList(t, "Shift", l, e, []int{-1 << 32, 0, 1 << 31, 1, -1}, api.OK)
	l, e = predict.Shift([]int{0, 1 << 30, 0}, 31)
	isList(t, "Shift", l, e, nil, api.ErrArg)
	// 2^by divides 0, and all of none.
	for by := 0; by <= 31; by++ {
		l, e = predict.Shift(nil, by)
		isList(t, "Shift(none)", l, e, nil, api.OK)
		l, e = predict.Shift([]int{0, 0}, by)
		isList(t, "Shift(0 0)", l, e, []int{0, 0}, api.OK)
	}
}

// The number that is not divided may stand at each place.
func TestOneOddNumber(t *testing.T) {
	for by := 1; by <= 31; by++ {
		for i := range 5 {
			for _, odd := range []int{1 << (by - 1), -1 << (by - 1), 1<<by + 1, math.MaxInt, -1} {
				l := slices.Repeat([]int{-1 << 40}, 5)
				l[i] = odd
				got, e := predict.Shift(l, by)
				isList(t, "Shift", got, e, nil, api.ErrArg)
				isShift(t, l, by-1)
			}
		}
	}
}

func TestUnshift(t *testing.T) {
	l, e := predict.Unshift([]int{1, 2, -3, 0}, 2)
	isList(t, "Unshift(1 2 -3 0, 2)", l, e, []int{4, 8, -12, 0}, api.OK)
	l, e = predict.Unshift([]int{1, -1}, 31)
	isList(t, "Unshift(1 -1, 31)", l, e, []int{1 << 31, -1 << 31}, api.OK)
	l, e = predict.Unshift([]int{5, math.MinInt}, 0)
	isList(t, "Unshift(5 least, 0)", l, e, []int{5, math.MinInt}, api.OK)
	l, e = predict.Unshift(nil, 7)
	isList(t, "Unshift(none, 7)", l, e, nil, api.OK)
	// Past what an int holds it goes round.
	l, e = predict.Unshift([]int{math.MinInt, math.MaxInt, 1 << 62, 3 << 61}, 1)
	isList(t, "Unshift", l, e, []int{0, -2, math.MinInt, -1 << 62}, api.OK)
	r := numbers(932)
	for range 2000 {
		l, by := r.list(r.below(9), 64), r.below(32)
		var want []int
		for _, n := range l {
			want = append(want, weighed([]int{1 << by}, []int{n}))
		}
		got, e := predict.Unshift(l, by)
		isList(t, "Unshift", got, e, want, api.OK)
	}
}

func TestWrongShifts(t *testing.T) {
	for _, by := range []int{math.MinInt, -64, -32, -1, 32, 33, 63, 64, math.MaxInt} {
		for _, l := range [][]int{nil, {0}, {0, 0}, {1, 2}, {math.MinInt}} {
			got, e := predict.Shift(l, by)
			isList(t, "Shift", got, e, nil, api.ErrArg)
			got, e = predict.Unshift(l, by)
			isList(t, "Unshift", got, e, nil, api.ErrArg)
		}
	}
}
