package predict_test

import (
	"math"
	"slices"
	"testing"

	"lacquer/api"
	"lacquer/predict"
)

// Promise 9.4.

// near and far are how far from 0 the numbers may lie that Stereo and Unstereo take.
const (
	near = 1 << 40
	far  = 1 << 42
)

func TestExamplesOfStereo(t *testing.T) {
	for _, c := range [][4]int{{3, 0, 1, 3}, {-1, 0, -1, -1}} {
		a, b, e := predict.Stereo(api.ModeMid, c[:1], c[1:2])
		isTwo(t, "Stereo", a, b, e, c[2:3], c[3:4], api.OK)
		a, b, e = predict.Unstereo(api.ModeMid, c[2:3], c[3:4])
		isTwo(t, "Unstereo", a, b, e, c[:1], c[1:2], api.OK)
	}
}

func TestModes(t *testing.T) {
	left, right := []int{10, -3, 0, 7}, []int{4, -3, 5, -2}
	for mode, want := range [][2][]int{
		{{10, -3, 0, 7}, {4, -3, 5, -2}},
		{{10, -3, 0, 7}, {6, 0, -5, 9}},
		{{6, 0, -5, 9}, {4, -3, 5, -2}},
		{{7, -3, 2, 2}, {6, 0, -5, 9}},
	} {
		a, b, e := predict.Stereo(mode, left, right)
		isTwo(t, "Stereo", a, b, e, want[0], want[1], api.OK)
		a, b, e = predict.Unstereo(mode, want[0], want[1])
		isTwo(t, "Unstereo", a, b, e, left, right, api.OK)
		a, b, e = predict.Stereo(mode, nil, nil)
		isTwo(t, "Stereo", a, b, e, nil, nil, api.OK)
		a, b, e = predict.Unstereo(mode, nil, []int{})
		isTwo(t, "Unstereo", a, b, e, nil, nil, api.OK)
	}
}

func TestNoModes(t *testing.T) {
	for _, mode := range []int{math.MinInt, -2, -1, 4, 5, 256, math.MaxInt} {
		for _, l := range [][]int{nil, {1}, {1, 2}} {
			a, b, e := predict.Stereo(mode, l, l)
			isTwo(t, "Stereo", a, b, e, nil, nil, api.ErrArg)
			a, b, e = predict.Unstereo(mode, l, l)
			isTwo(t, "Unstereo", a, b, e, nil, nil, api.ErrArg)
		}
	}
}

func TestTwoLengths(t *testing.T) {
	long := []int{1, 2, 3, 4}
	for mode := range 4 {
		for i := range 5 {
			for j := range 5 {
				want := api.ErrArg
				if i == j {
					want = api.OK
				}
				a, b, e := predict.Stereo(mode, long[:i], long[:j])
				c, d, f := predict.Unstereo(mode, long[:i], long[:j])
				if e != want || f != want {
					t.Errorf("mode %d, lengths %d and %d: errors %d, %d, not %d", mode, i, j, e, f, want)
				}
				if want != api.OK && len(a)+len(b)+len(c)+len(d) > 0 {
					t.Errorf("mode %d, lengths %d and %d: %v %v %v %v beside an error", mode, i, j, a, b, c, d)
				}
			}
		}
	}
}

// The least and the greatest number that may be, one less and one more, in either list and at each place.
func TestHowFar(t *testing.T) {
	for _, c := range []struct {
		n             int
		there, orBack bool
	}{
		{near, true, true}, {-near, true, true}, {near - 1, true, true}, {-near + 1, true, true},
		{near + 1, false, true}, {-near - 1, false, true},
		{far, false, true}, {-far, false, true}, {far - 1, false, true}, {-far + 1, false, true},
		{far + 1, false, false}, {-far - 1, false, false}, {math.MaxInt, false, false}, {math.MinInt, false, false},
	} {
		for mode := range 4 {
			for i := range 3 {
				l, m := []int{5, 6, 7}, []int{1, 2, -3}
				l[i] = c.n
				for _, two := range [][2][]int{{l, m}, {m, l}, {l, l}} {
					if _, _, e := predict.Stereo(mode, two[0], two[1]); (e == api.OK) != c.there || !c.there && e != api.ErrArg {
						t.Errorf("Stereo(%d, %v, %v): error %d", mode, two[0], two[1], e)
					}
					if _, _, e := predict.Unstereo(mode, two[0], two[1]); (e == api.OK) != c.orBack || !c.orBack && e != api.ErrArg {
						t.Errorf("Unstereo(%d, %v, %v): error %d", mode, two[0], two[1], e)
					}
					isStereo(t, mode, two[0], two[1])
					isUnstereo(t, mode, two[0], two[1])
				}
			}
		}
	}
	a, b, e := predict.Stereo(api.ModeMid, []int{near, near, -near, -near}, []int{near, -near, near, -near})
	isTwo(t, "Stereo", a, b, e, []int{near, 0, 0, -near}, []int{0, 2 * near, -2 * near, 0}, api.OK)
	a, b, e = predict.Unstereo(api.ModeMid, []int{far, far, -far, -far}, []int{far, -far, far, -far})
	isTwo(t, "Unstereo", a, b, e, []int{3 * far / 2, far / 2, -far / 2, -3 * far / 2}, []int{far / 2, 3 * far / 2, -3 * far / 2, -far / 2}, api.OK)
	a, b, e = predict.Unstereo(api.ModeRight, []int{far, -far}, []int{far, -far})
	isTwo(t, "Unstereo", a, b, e, []int{2 * far, -2 * far}, []int{far, -far}, api.OK)
}

// Sums and differences that are odd, even, below 0, in all modes.
func TestAllSmallNumbers(t *testing.T) {
	for mode := range 4 {
		for n := -9; n <= 9; n++ {
			for m := -9; m <= 9; m++ {
				isStereo(t, mode, []int{n}, []int{m})
				isUnstereo(t, mode, []int{n}, []int{m})
			}
		}
	}
	for _, c := range [][4]int{
		{4, 2, 3, 2}, {2, 4, 3, -2}, {3, 2, 2, 1}, {2, 3, 2, -1}, {-3, -2, -3, -1}, {-2, -3, -3, 1},
		{-4, -2, -3, -2}, {-2, -4, -3, 2}, {-3, 2, -1, -5}, {3, -2, 0, 5}, {0, -1, -1, 1}, {0, 1, 0, -1}, {-1, -1, -1, 0},
	} {
		a, b, e := predict.Stereo(api.ModeMid, c[:1], c[1:2])
		isTwo(t, "Stereo", a, b, e, c[2:3], c[3:4], api.OK)
		a, b, e = predict.Unstereo(api.ModeMid, c[2:3], c[3:4])
		isTwo(t, "Unstereo", a, b, e, c[:1], c[1:2], api.OK)
	}
}

func TestManyStereo(t *testing.T) {
	r := numbers(941)
	for range 4000 {
		count := r.below(20)
		width := 1 + r.below(44)
		a, b := r.list(count, width), r.list(count, width)
		for mode := -1; mode <= 4; mode++ {
			isStereo(t, mode, a, b)
			isUnstereo(t, mode, a, b)
			isStereo(t, mode, a, a)
			isUnstereo(t, mode, slices.Clone(b), b)
		}
	}
}
