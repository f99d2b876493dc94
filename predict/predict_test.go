package predict_test

import (
	"math"
	"slices"
	"testing"

	"lacquer/api"
	"lacquer/predict"
)

// Promises 9.1 and 9.2.

func TestExamplesOfFixed(t *testing.T) {
	l, e := predict.Fixed(2, []int{1, 2, 3, 5})
	isList(t, "Fixed(2, 1 2 3 5)", l, e, []int{0, 1}, api.OK)
	l, e = predict.Unfixed(1, []int{5}, []int{1, 1})
	isList(t, "Unfixed(1, 5, 1 1)", l, e, []int{5, 6, 7}, api.OK)
}

// Each order's weights, to be seen one by one behind a 1 among noughts.
func TestFixedByHand(t *testing.T) {
	one := []int{0, 0, 0, 0, 1, 0, 0, 0, 0, 0}
	for order, want := range [][]int{
		{0, 0, 0, 0, 1, 0, 0, 0, 0, 0},
		{0, 0, 0, 1, -1, 0, 0, 0, 0},
		{0, 0, 1, -2, 1, 0, 0, 0},
		{0, 1, -3, 3, -1, 0, 0},
		{1, -4, 6, -4, 1, 0},
	} {
		l, e := predict.Fixed(order, one)
		isList(t, "Fixed", l, e, want, api.OK)
		l, e = predict.Unfixed(order, one[:order], want)
		isList(t, "Unfixed", l, e, one, api.OK)
	}
	// 5^2 less 0; less 16; less 2 * 16 - 9; squares have nothing left over of order 3 and 4.
	squares := []int{0, 1, 4, 9, 16, 25}
	for order, want := range [][]int{{0, 1, 4, 9, 16, 25}, {1, 3, 5, 7, 9}, {2, 2, 2, 2}, {0, 0, 0}, {0, 0}} {
		l, e := predict.Fixed(order, squares)
		isList(t, "Fixed", l, e, want, api.OK)
	}
	l, e := predict.Unfixed(3, []int{7, 7, 7}, []int{0, 1, 0})
	isList(t, "Unfixed", l, e, []int{7, 7, 7, 7, 8, 10}, api.OK)
	l, e = predict.Unfixed(4, []int{0, 1, 8, 27}, []int{0, 0, 0})
	isList(t, "Unfixed", l, e, []int{0, 1, 8, 27, 64, 125, 216}, api.OK)
}

// As many numbers as the order, one fewer, none.
func TestShortListsOfFixed(t *testing.T) {
	for order := 0; order <= 4; order++ {
		for count := 0; count <= 8; count++ {
			l := []int{9, -8, 7, -6, 5, -4, 3, -2}[:count]
			rest, e := predict.Fixed(order, l)
			if count < order {
				isList(t, "Fixed", rest, e, nil, api.ErrArg)
			} else if e != api.OK || len(rest) != count-order {
				t.Errorf("Fixed(%d, %v): %v, error %d", order, l, rest, e)
			}
			isFixed(t, order, l)
		}
	}
	l, e := predict.Fixed(0, nil)
	isList(t, "Fixed(0, none)", l, e, nil, api.OK)
	l, e = predict.Fixed(1, nil)
	isList(t, "Fixed(1, none)", l, e, nil, api.ErrArg)
	l, e = predict.Unfixed(0, nil, nil)
	isList(t, "Unfixed(0, none, none)", l, e, nil, api.OK)
	l, e = predict.Unfixed(0, nil, []int{3, -4})
	isList(t, "Unfixed(0, none, 3 -4)", l, e, []int{3, -4}, api.OK)
	l, e = predict.Unfixed(3, []int{1, 2, 9}, nil)
	isList(t, "Unfixed(3, 1 2 9, none)", l, e, []int{1, 2, 9}, api.OK)
}

func TestOrdersOfFixed(t *testing.T) {
	long := []int{1, 2, 3, 4, 5, 6, 7, 8}
	for _, order := range []int{math.MinInt, -64, -2, -1, 5, 6, 64, math.MaxInt} {
		for count := range 9 {
			l, e := predict.Fixed(order, long[:count])
			isList(t, "Fixed", l, e, nil, api.ErrArg)
			for rest := range 3 {
				l, e = predict.Unfixed(order, long[:count], long[:rest])
				isList(t, "Unfixed", l, e, nil, api.ErrArg)
			}
		}
	}
}

// One number too few, one too many.
func TestWarmOfUnfixed(t *testing.T) {
	long := []int{1, 2, 3, 4, 5, 6}
	for order := 0; order <= 4; order++ {
		for count := range 7 {
			want := api.ErrArg
			if count == order {
				want = api.OK
			}
			for _, rest := range [][]int{nil, {0}, {1, 2, 3, 4, 5, 6}} {
				if _, e := predict.Unfixed(order, long[:count], rest); e != want {
					t.Errorf("Unfixed(%d, %v, %v): error %d, not %d", order, long[:count], rest, e, want)
				}
				isUnfixed(t, order, long[:count], rest)
			}
		}
	}
}

// Past what an int holds all goes round.
func TestFixedGoesRound(t *testing.T) {
	l, e := predict.Fixed(1, []int{math.MaxInt, math.MinInt, math.MaxInt, 0})
	isList(t, "Fixed", l, e, []int{1, -1, -math.MaxInt}, api.OK)
	l, e = predict.Unfixed(1, []int{math.MaxInt}, []int{1, -1, -math.MaxInt})
	isList(t, "Unfixed", l, e, []int{math.MaxInt, math.MinInt, math.MaxInt, 0}, api.OK)
	l, e = predict.Fixed(2, []int{math.MinInt, math.MaxInt, 5})
	isList(t, "Fixed", l, e, []int{5 + 2 + math.MinInt}, api.OK)
	ends := []int{math.MinInt, math.MaxInt, math.MinInt + 1, math.MaxInt - 1, -1, 0, 1, 1 << 62, -1 << 62, 1<<62 + 1}
	r := numbers(911)
	for range 2000 {
		l := make([]int, r.below(12))
		for i := range l {
			l[i] = ends[r.below(len(ends))]
		}
		for order := 0; order <= 4; order++ {
			isFixed(t, order, l)
			if len(l) >= order {
				isUnfixed(t, order, l[:order], l[order:])
			}
		}
	}
}

func TestManyFixed(t *testing.T) {
	r := numbers(912)
	for range 1500 {
		l := r.list(r.below(40), 1+r.below(64))
		for order := -1; order <= 5; order++ {
			isFixed(t, order, l)
			isUnfixed(t, order, r.list(r.below(6), 64), l)
			isUnfixed(t, order, r.list(max(order, 0), 64), l)
		}
	}
}

func TestExamplesOfLpc(t *testing.T) {
	l, e := predict.Lpc([]int{2, -1}, 0, []int{1, 2, 3, 5})
	isList(t, "Lpc(2 -1, 0, 1 2 3 5)", l, e, []int{0, 1}, api.OK)
	l, e = predict.Lpc([]int{3, -1}, 1, []int{2, 4, 5})
	isList(t, "Lpc(3 -1, 1, 2 4 5)", l, e, []int{0}, api.OK)
	l, e = predict.Unlpc([]int{3, -1}, 1, []int{2, 4}, []int{0})
	isList(t, "Unlpc(3 -1, 1, 2 4, 0)", l, e, []int{2, 4, 5}, api.OK)
}

// The first coefficient is that of the last number, the last one that of the first.
func TestOrderOfCoefs(t *testing.T) {
	l, e := predict.Lpc([]int{100, 10, 1}, 0, []int{3, 2, 1, 0, 0})
	isList(t, "Lpc", l, e, []int{-123, -12}, api.OK)
	for count := 1; count <= 32; count++ {
		for j := range count {
			coefs, past := make([]int, count), make([]int, count)
			for i := range past {
				past[i] = 1000 + i
			}
			coefs[j] = 1
			l, e := predict.Lpc(coefs, 0, append(slices.Clone(past), 0))
			isList(t, "Lpc", l, e, []int{-past[count-1-j]}, api.OK)
			l, e = predict.Unlpc(coefs, 0, past, []int{0})
			isList(t, "Unlpc", l, e, append(past, past[count-1-j]), api.OK)
		}
	}
}

// Sums below 0 are divided downwards, not towards 0; the number itself is not divided.
func TestLpcDividesDownwards(t *testing.T) {
	for _, c := range []struct{ sum, shift, want int }{
		{-1, 0, -1}, {-1, 1, -1}, {-1, 31, -1}, {-2, 1, -1}, {-3, 1, -2}, {-4, 2, -1}, {-5, 2, -2}, {-7, 2, -2}, {-8, 2, -2},
		{0, 31, 0}, {1, 1, 0}, {3, 1, 1}, {7, 2, 1}, {8, 2, 2},
		{1<<31 - 1, 31, 0}, {1 << 31, 31, 1}, {-1 << 31, 31, -1}, {-1<<31 - 1, 31, -2}, {-1<<31 + 1, 31, -1},
		{math.MinInt, 31, -1 << 32}, {math.MaxInt, 31, 1<<32 - 1}, {math.MinInt, 0, math.MinInt}, {math.MaxInt, 0, math.MaxInt},
	} {
		l, e := predict.Lpc([]int{1}, c.shift, []int{c.sum, 0})
		isList(t, "Lpc", l, e, []int{0 - c.want}, api.OK)
		l, e = predict.Lpc([]int{c.sum}, c.shift, []int{1, 1000})
		isList(t, "Lpc", l, e, []int{1000 - c.want}, api.OK)
		l, e = predict.Unlpc([]int{c.sum}, c.shift, []int{1}, []int{1000})
		isList(t, "Unlpc", l, e, []int{1, 1000 + c.want}, api.OK)
	}
	// One sum is divided, not each product by itself.
	l, e := predict.Lpc([]int{1, 1}, 1, []int{1, 1, 0})
	isList(t, "Lpc", l, e, []int{-1}, api.OK)
	l, e = predict.Lpc([]int{-1, -1}, 1, []int{1, 1, 0})
	isList(t, "Lpc", l, e, []int{1}, api.OK)
}

func TestHowManyCoefs(t *testing.T) {
	for _, count := range []int{0, 1, 2, 31, 32, 33, 34, 64} {
		coefs := slices.Repeat([]int{1}, count)
		want := api.ErrArg
		if count >= 1 && count <= 32 {
			want = api.OK
		}
		if _, e := predict.Lpc(coefs, 0, make([]int, 70)); e != want {
			t.Errorf("Lpc of %d coefs: error %d, not %d", count, e, want)
		}
		if _, e := predict.Unlpc(coefs, 0, make([]int, count), []int{1, 2}); e != want {
			t.Errorf("Unlpc of %d coefs: error %d, not %d", count, e, want)
		}
		for _, length := range []int{0, 1, count - 1, count, count + 1, 70} {
			l := slices.Repeat([]int{5}, max(length, 0))
			isLpc(t, coefs, 3, l)
			isUnlpc(t, coefs, 3, l, []int{4, 5, 6})
			isUnlpc(t, coefs, 3, l, nil)
		}
	}
	l, e := predict.Lpc(nil, 0, nil)
	isList(t, "Lpc(none, 0, none)", l, e, nil, api.ErrArg)
	l, e = predict.Unlpc(nil, 0, nil, nil)
	isList(t, "Unlpc(none, 0, none, none)", l, e, nil, api.ErrArg)
	l, e = predict.Unlpc(nil, 0, nil, []int{1})
	isList(t, "Unlpc(none, 0, none, 1)", l, e, nil, api.ErrArg)
	l, e = predict.Lpc([]int{7}, 0, []int{3})
	isList(t, "Lpc(7, 0, 3)", l, e, nil, api.OK)
	l, e = predict.Lpc([]int{7}, 0, nil)
	isList(t, "Lpc(7, 0, none)", l, e, nil, api.ErrArg)
	l, e = predict.Unlpc([]int{7}, 0, []int{3}, nil)
	isList(t, "Unlpc(7, 0, 3, none)", l, e, []int{3}, api.OK)
}

func TestShiftsOfLpc(t *testing.T) {
	for _, shift := range []int{math.MinInt, -64, -32, -1, 0, 1, 15, 30, 31, 32, 33, 63, 64, math.MaxInt} {
		want := api.ErrArg
		if shift >= 0 && shift <= 31 {
			want = api.OK
		}
		if _, e := predict.Lpc([]int{1, 2}, shift, []int{1, 2, 3}); e != want {
			t.Errorf("Lpc with shift %d: error %d, not %d", shift, e, want)
		}
		if _, e := predict.Unlpc([]int{1, 2}, shift, []int{1, 2}, []int{3}); e != want {
			t.Errorf("Unlpc with shift %d: error %d, not %d", shift, e, want)
		}
		isLpc(t, []int{1 << 40, -3}, shift, []int{1, 2, 3, 1 << 50, -9})
		isUnlpc(t, []int{1 << 40, -3}, shift, []int{1, 2}, []int{3, 1 << 50, -9})
	}
}

// Past what an int holds all goes round, the sum ahead of its division.
func TestLpcGoesRound(t *testing.T) {
	l, e := predict.Lpc([]int{2}, 1, []int{1 << 62, 0})
	isList(t, "Lpc", l, e, []int{1 << 62}, api.OK)
	l, e = predict.Lpc([]int{1, 1}, 1, []int{math.MaxInt, 1, 0})
	isList(t, "Lpc", l, e, []int{1 << 62}, api.OK)
	l, e = predict.Lpc([]int{1 << 32}, 31, []int{1 << 32, 77})
	isList(t, "Lpc", l, e, []int{77}, api.OK)
	l, e = predict.Lpc([]int{math.MinInt}, 0, []int{math.MinInt, math.MinInt, 3})
	isList(t, "Lpc", l, e, []int{math.MinInt, 3}, api.OK)
	l, e = predict.Lpc([]int{-1}, 0, []int{math.MinInt, 0, math.MaxInt, math.MinInt})
	isList(t, "Lpc", l, e, []int{math.MinInt, math.MaxInt, -1}, api.OK)
	l, e = predict.Unlpc([]int{1}, 0, []int{math.MinInt}, []int{-1, 1})
	isList(t, "Unlpc", l, e, []int{math.MinInt, math.MaxInt, math.MinInt}, api.OK)
	ends := []int{math.MinInt, math.MaxInt, math.MinInt + 1, math.MaxInt - 1, -1, 0, 1, 1 << 62, -1 << 62, 1 << 32, -1<<32 + 1}
	r := numbers(921)
	for range 3000 {
		coefs, l := make([]int, 1+r.below(5)), make([]int, r.below(12))
		for i := range coefs {
			coefs[i] = ends[r.below(len(ends))]
		}
		for i := range l {
			l[i] = ends[r.below(len(ends))]
		}
		shift := r.below(32)
		isLpc(t, coefs, shift, l)
		if len(l) >= len(coefs) {
			isUnlpc(t, coefs, shift, l[:len(coefs)], l[len(coefs):])
		}
	}
}

func TestManyLpc(t *testing.T) {
	r := numbers(922)
	for range 2500 {
		coefs := r.list(1+r.below(32), 1+r.below(64))
		l := r.list(r.below(60), 1+r.below(64))
		shift := r.below(32)
		isLpc(t, coefs, shift, l)
		isUnlpc(t, coefs, shift, r.list(len(coefs), 64), l)
		isUnlpc(t, coefs, shift, r.list(len(coefs)-1, 64), l)
		isUnlpc(t, coefs, shift, r.list(len(coefs)+1, 64), l)
	}
}
