package predict_test

import (
	"math"
	"slices"
	"testing"

	"lacquer/api"
	"lacquer/predict"
)

// Promise 9.5.

// Samples as files have them go there and back through all of the package.
func TestThereAndBack(t *testing.T) {
	r := numbers(951)
	for range 600 {
		l := r.list(r.below(200), 1+r.below(33))
		for order := 0; order <= min(4, len(l)); order++ {
			rest, e := predict.Fixed(order, l)
			back, f := predict.Unfixed(order, l[:order], rest)
			isList(t, "Unfixed", back, e+f, l, api.OK)
			rest, e = predict.Unfixed(order, l[:order], l[order:])
			back, f = predict.Fixed(order, rest)
			isList(t, "Fixed", back, e+f, l[order:], api.OK)
		}
		coefs, shift := r.list(1+r.below(32), 15), r.below(16)
		if count := len(coefs); count <= len(l) {
			rest, e := predict.Lpc(coefs, shift, l)
			back, f := predict.Unlpc(coefs, shift, l[:count], rest)
			isList(t, "Unlpc", back, e+f, l, api.OK)
			rest, e = predict.Unlpc(coefs, shift, l[:count], l[count:])
			back, f = predict.Lpc(coefs, shift, rest)
			isList(t, "Lpc", back, e+f, l[count:], api.OK)
		}
		by := r.below(32)
		more, e := predict.Unshift(l, by)
		back, f := predict.Shift(more, by)
		isList(t, "Shift", back, e+f, l, api.OK)
		waste := predict.Wasted(more)
		less, e := predict.Shift(more, waste)
		back, f = predict.Unshift(less, waste)
		isList(t, "Unshift", back, e+f, more, api.OK)
		other := r.list(len(l), 33)
		for mode := range 4 {
			a, b, e := predict.Stereo(mode, l, other)
			c, d, f := predict.Unstereo(mode, a, b)
			isTwo(t, "Unstereo", c, d, e+f, l, other, api.OK)
			a, b, e = predict.Unstereo(mode, l, other)
			c, d, f = predict.Stereo(mode, a, b)
			isTwo(t, "Stereo", c, d, e+f, l, other, api.OK)
		}
	}
}

// A line has nothing left over by order 2, however steep; nor by 3 and 4.
func TestLines(t *testing.T) {
	r := numbers(952)
	slopes := []int{0, 1, -1, 1000, -77, math.MaxInt, math.MinInt}
	for range 50 {
		slopes = append(slopes, r.signed(64))
	}
	for _, slope := range slopes {
		line := make([]int, 30)
		for i := range line {
			line[i] = 17 + i*slope
		}
		for order := 2; order <= 4; order++ {
			rest, e := predict.Fixed(order, line)
			isList(t, "Fixed of a line", rest, e, make([]int, 30-order), api.OK)
			back, e := predict.Unfixed(order, line[:order], make([]int, 30-order))
			isList(t, "Unfixed of a line", back, e, line, api.OK)
		}
		rest, e := predict.Fixed(1, line)
		isList(t, "Fixed of a line", rest, e, slices.Repeat([]int{slope}, 29), api.OK)
		rest, e = predict.Lpc([]int{2, -1}, 0, line)
		isList(t, "Lpc of a line", rest, e, make([]int, 28), api.OK)
	}
}

// A fixed predictor is the other one with its coefficients.
func TestFixedIsLpc(t *testing.T) {
	r := numbers(953)
	for range 500 {
		l := r.list(4+r.below(40), 64)
		for order, coefs := range [][]int{{}, {1}, {2, -1}, {3, -3, 1}, {4, -6, 4, -1}} {
			if order == 0 {
				continue
			}
			want, _ := predict.Lpc(coefs, 0, l)
			got, e := predict.Fixed(order, l)
			isList(t, "Fixed", got, e, want, api.OK)
		}
	}
}

// A whole plane of the greatest PCM.
func TestLongLists(t *testing.T) {
	r := numbers(954)
	l, other := r.list(api.MaxSamples, 32), r.list(api.MaxSamples, 32)
	rest, e := predict.Fixed(4, l)
	back, f := predict.Unfixed(4, l[:4], rest)
	isList(t, "Unfixed", back, e+f, l, api.OK)
	coefs := r.list(32, 15)
	rest, e = predict.Lpc(coefs, 15, l)
	back, f = predict.Unlpc(coefs, 15, l[:32], rest)
	isList(t, "Unlpc", back, e+f, l, api.OK)
	a, b, e := predict.Stereo(api.ModeMid, l, other)
	c, d, f := predict.Unstereo(api.ModeMid, a, b)
	isTwo(t, "Unstereo", c, d, e+f, l, other, api.OK)
}

// FuzzPredict looks for numbers that are told wrongly, or that do not come back.
func FuzzPredict(f *testing.F) {
	f.Add("\x01\x02\x03\x05", 2, 0, 1)
	f.Add("\x80\x7f\xff\x00\x10\x9c", 4, 31, 8)
	f.Add("\x02\x04\x05", 1, 1, 63)
	f.Add("", -1, 32, 0)
	f.Fuzz(func(t *testing.T, s string, order, shift, up int) {
		if len(s) > 200 {
			return
		}
		var l []int
		for i := range len(s) {
			l = append(l, int(int8(s[i]))<<(up&63))
		}
		isFixed(t, order, l)
		isUnfixed(t, order, l[:min(len(l), max(order, 0)&7)], l)
		isShift(t, l, shift)
		isWasted(t, wastedModel(l), l...)
		half := len(l) / 2
		isLpc(t, l[:half/2], shift, l[half/2:])
		isUnlpc(t, l[:half], shift, l[half:], l)
		isUnlpc(t, l[:half], shift, l[:half], l)
		isStereo(t, order, l[:half], l[half:])
		isUnstereo(t, order, l[:half], l[len(l)-half:])
	})
}
