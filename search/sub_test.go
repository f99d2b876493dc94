package search_test

import (
	"math"
	"slices"
	"testing"

	"lacquer/api"
	"lacquer/search"
)

// Promises 12.1 and 12.2.

// far are numbers that are far from all that may be.
func far(more ...int) []int {
	return append(more, math.MinInt, math.MinInt+1, -1<<32, -65536, -256, 256, 65536, 1<<32, 1<<32+1, math.MaxInt-1, math.MaxInt)
}

func TestSize(t *testing.T) {
	for level, want := range []int{1152, 4096, 4096} {
		if n := search.Size(level); n != want {
			t.Errorf("Size(%d): %d", level, n)
		}
	}
	for _, level := range far(-3, -2, -1, 3, 4, 5, 1152, 4096) {
		if n := search.Size(level); n != 0 {
			t.Errorf("Size(%d): %d", level, n)
		}
	}
}

// isOf fails, unless Sub answers a Sub of this predictor or kind.
func isOf(t *testing.T, want api.Sub, l []int, width, level int) choice {
	t.Helper()
	c := isSub(t, l, width, level)
	got := c.sub
	got.Wasted, got.Rice = 0, api.Rice{}
	if !sameSub(got, want) {
		t.Errorf("Sub(%s, %d, %d): %s, not %s", short(l), width, level, short(got), short(want))
	}
	return c
}

var (
	constant = api.Sub{Kind: api.SubConstant}
	verbatim = api.Sub{Kind: api.SubVerbatim}
)

func TestExamplesOfSub(t *testing.T) {
	for level := range 3 {
		if c := isOf(t, constant, slices.Repeat([]int{5}, 16), 8, level); c.bits != 16 {
			t.Errorf("level %d: %d bits", level, c.bits)
		}
		if c := isOf(t, fixed(2).sub, up(16), 8, level); c.bits != 8+2*8+6+4+14 {
			t.Errorf("level %d: %d bits", level, c.bits)
		}
	}
}

// Samples that each kind of Sub is the shortest for.
func TestEachKind(t *testing.T) {
	r := numbers(1221)
	for _, width := range []int{16, 24, 33} {
		noise := make([]int, 400)
		for i := range noise {
			noise[i] = r.any(width)
		}
		for level := range 3 {
			isOf(t, constant, slices.Repeat([]int{-12345}, 400), width, level)
			isOf(t, verbatim, noise, width, level)
		}
	}
	for i, p := range predictorsOf(2) {
		for level := range 3 {
			known := i < len(predictorsOf(level))
			l := r.course(p, 64)
			c := isSub(t, l, 33, level)
			took := c.sub.Kind == p.sub.Kind && c.sub.Order == p.sub.Order && slices.Equal(c.sub.Coefs, p.sub.Coefs)
			if took != known {
				t.Errorf("level %d: %s of samples of %s", level, short(c.sub), short(p.sub))
			}
		}
	}
}

// course is samples that p foretells but for a little, and that are far from what the other predictors foretell.
func (r *numbers) course(p predictor, count int) []int {
	l := slices.Clone([]int{1003, 2033, -509, 217}[:p.sub.Order])
	if p.sub.Kind == api.SubLpc {
		l[0] = 1000003
	}
	for len(l) < count {
		l = append(l, p.foretold(l)+r.below(7)-3)
	}
	return l
}

// What a level does not know it does not take, and what it knows is in all of those above.
func TestLevels(t *testing.T) {
	cubes, decay := make([]int, 32), []int{30000}
	for i := range cubes {
		cubes[i] = i * i * i
	}
	for len(decay) < 64 {
		decay = append(decay, decay[len(decay)-1]*31/32)
	}
	isOf(t, fixed(2).sub, cubes, 24, 0)
	isOf(t, fixed(4).sub, cubes, 24, 1)
	isOf(t, fixed(4).sub, cubes, 24, 2)
	isOf(t, lpc(31).sub, decay, 20, 2)
	for level := range 2 {
		if c := isSub(t, decay, 20, level); c.sub.Kind != api.SubFixed {
			t.Errorf("level %d: %s", level, short(c.sub))
		}
	}
	for _, level := range far(-2, -1, 3, 4) {
		isNoSub(t, up(16), 8, level)
		isNoSub(t, []int{5, 5}, 8, level)
	}
}

// What the predictors with coefficients say of them: each is told as 12.1 has it.
func TestCoefs(t *testing.T) {
	r := numbers(1222)
	for _, coefs := range [][]int{{31}, {60, -29}, {63, -31}} {
		l := r.course(lpc(coefs...), 100)
		s, n := search.Sub(l, 28, 2)
		want := api.Sub{Kind: api.SubLpc, Order: len(coefs), Precision: 7, Shift: 5, Coefs: coefs, Rice: s.Rice}
		if !sameSub(s, want) || n != bitsOf(want, 28, l) {
			t.Errorf("%v, %d", s, n)
		}
	}
}

func TestWidths(t *testing.T) {
	for level := range 3 {
		for _, width := range far(-33, -1, 0, 34, 35, 63, 64, 65, 66) {
			isNoSub(t, []int{0}, width, level)
			isNoSub(t, []int{0, -1}, width, level)
		}
		for width := 1; width <= 33; width++ {
			least, most := -power(width-1), power(width-1)-1
			for _, l := range [][]int{{least}, {most}, {least, most}, {most, least, 0}, slices.Repeat([]int{least}, 20), slices.Repeat([]int{least, most}, 20)} {
				isSub(t, l, width, level)
			}
			for _, n := range far(least-1, most+1) {
				if !within(n, width) {
					isNoSub(t, []int{n}, width, level)
					isNoSub(t, []int{0, 0, n}, width, level)
					isNoSub(t, []int{n, 0, 0}, width, level)
				}
			}
		}
	}
}

// No numbers, and fewer than a predictor's order.
func TestFewNumbers(t *testing.T) {
	for level := range 3 {
		for width := 1; width <= 33; width++ {
			isNoSub(t, nil, width, level)
			isNoSub(t, []int{}, width, level)
		}
		for _, width := range []int{2, 8, 12, 20, 33} {
			for _, n := range []int{0, 1, -1, -2} {
				isSub(t, []int{n}, width, level)
			}
			for count := 1; count <= 6; count++ {
				isSub(t, up(count)[:min(count, power(width-1))], width, level)
				isSub(t, slices.Repeat([]int{0}, count), width, level)
				isSub(t, slices.Repeat([]int{-1}, count), width, level)
			}
		}
		for _, l := range [][]int{{3172, 3072}, {-182, -180}, {100, 200, 300}, {1, 8, 27, 64}, {1, 16, 81, 256, 625}, {9000, 8718}} {
			isSub(t, l, 16, level)
			isSub(t, l, 33, level)
		}
	}
}

func TestManyNumbers(t *testing.T) {
	r := numbers(1223)
	for level := range 3 {
		many := slices.Repeat([]int{0}, 65536)
		isOf(t, constant, many[:65535], 1, level)
		isOf(t, constant, many[:65535], 33, level)
		isNoSub(t, many, 1, level)
		isNoSub(t, many, 33, level)
		isNoSub(t, slices.Repeat(many, 3), 8, level)
		for i := range many {
			many[i] = i - 32768
		}
		isNoSub(t, many, 17, level)
		isOf(t, fixed(2).sub, many[:65535], 17, level)
		isOf(t, fixed(2).sub, many[1:], 16, level)
		for i := range many {
			many[i] = r.any(33)
		}
		isOf(t, verbatim, many[1:], 33, level)
		isSub(t, many[:65534], 33, level)
		isSub(t, many[:65520], 33, level)
		isNoSub(t, many, 33, level)
	}
}

// Wasted bits, up to as many as may be, and all 0, which waste none.
func TestWasted(t *testing.T) {
	r := numbers(1224)
	for level := range 3 {
		for width := 1; width <= 33; width++ {
			if c := isSub(t, make([]int, 1+r.below(40)), width, level); c.sub.Wasted != 0 {
				t.Errorf("width %d, all 0: %d wasted", width, c.sub.Wasted)
			}
			for wasted := range width {
				l := []int{-power(wasted)}
				for range 3 + r.below(40) {
					l = append(l, r.signed(width-wasted)*power(wasted))
				}
				want := min(wasted, 31)
				if c := isSub(t, l, width, level); c.sub.Wasted != want {
					t.Errorf("width %d: %d wasted, not %d", width, c.sub.Wasted, want)
				}
				if c := isSub(t, l[:1], width, level); c.sub.Wasted != want {
					t.Errorf("width %d, one number: %d wasted, not %d", width, c.sub.Wasted, want)
				}
			}
		}
		if c := isOf(t, constant, slices.Repeat([]int{4}, 16), 8, level); c.sub.Wasted != 2 || c.bits != 8+2+6 {
			t.Errorf("16 times 4: %s", short(c))
		}
		odd := []int{64, 128, 65, 0}
		if c := isSub(t, odd, 9, level); c.sub.Wasted != 0 {
			t.Errorf("an odd number among others: %s", short(c))
		}
	}
}

// Of two Subs with as many bits the first is taken.
func TestTies(t *testing.T) {
	for _, x := range []struct {
		l             []int
		width, bits   int
		first, second api.Sub
	}{
		{[]int{8856}, 17, 25, constant, verbatim},
		{[]int{16}, 17, 25, constant, fixed(0).sub},
		{make([]int, 23), 33, 41, constant, fixed(0).sub},
		{[]int{3172, 3072}, 19, 44, verbatim, fixed(0).sub},
		{[]int{-182, -180}, 14, 35, verbatim, fixed(1).sub},
		{[]int{-344, 30, 404}, 12, 42, verbatim, fixed(2).sub},
		{[]int{-1599, 774, 1390, 246}, 14, 64, verbatim, fixed(3).sub},
		{[]int{-378, 876, 370, -866, -1804}, 13, 69, verbatim, fixed(4).sub},
		{[]int{-119393, 118137, 329707, 511140}, 20, 88, verbatim, lpc(60, -29).sub},
		{[]int{-26805, 15816, 57105, 97102}, 18, 80, verbatim, lpc(63, -31).sub},
		{[]int{-75, -74}, 15, 36, fixed(0).sub, fixed(1).sub},
		{[]int{141, 229, 315}, 14, 49, fixed(0).sub, fixed(2).sub},
		{[]int{486, -205, 56, 1270}, 14, 63, fixed(0).sub, fixed(3).sub},
		{[]int{1047, 944, -264, -1024, 218}, 14, 77, fixed(0).sub, fixed(4).sub},
		{[]int{26141, 5737, -12934, -29451}, 21, 85, fixed(0).sub, lpc(60, -29).sub},
		{[]int{-12929, -12527, -12133}, 17, 57, fixed(1).sub, fixed(2).sub},
		{[]int{-50822, -61142, -68584, -73185}, 19, 83, fixed(1).sub, fixed(3).sub},
		{[]int{3352, 2556, 1564, 924, 1183}, 15, 80, fixed(1).sub, fixed(4).sub},
		{[]int{8073, 7821, 7576}, 17, 55, fixed(1).sub, lpc(31).sub},
		{[]int{-8379, 9040, 25934, 42317}, 17, 75, fixed(2).sub, fixed(3).sub},
		{[]int{-119, -847, -2353, -4466, -7014}, 16, 85, fixed(2).sub, fixed(4).sub},
		{[]int{6257, 6060, 5873, 5691}, 16, 61, fixed(2).sub, lpc(31).sub},
		{[]int{95939, 24253, -45195, -112474}, 20, 86, fixed(2).sub, lpc(63, -31).sub},
		{[]int{-22125, -71804, 77045, 422950, 964436}, 22, 110, fixed(3).sub, fixed(4).sub},
		{[]int{1962, -1487, -4566, -7215, -9390}, 15, 79, fixed(3).sub, lpc(60, -29).sub},
		{[]int{18196, 27246, 36015, 44511, 52744, 60721, 68450, 75939, 83195}, 18, 105, fixed(4).sub, lpc(63, -31).sub},
		{[]int{-35255, -34153, -33087, -32056, -31055, -29178, -26565, -23366, -19738, -15834}, 25, 141, lpc(31).sub, lpc(60, -29).sub},
		{[]int{27080, -26126, -77670, -127604, -123616, -119752, -116011, -112385, -108874, -105473}, 18, 146, lpc(31).sub, lpc(63, -31).sub},
		{[]int{202365, -273695, -734881, -1181657, -1614470, -2033758, -2097152, -2089067, -2016456, -1887639, -1711909, -1499156}, 22, 265, lpc(60, -29).sub, lpc(63, -31).sub},
	} {
		isOf(t, x.first, x.l, x.width, 2)
		for _, want := range []api.Sub{x.first, x.second} {
			if !slices.ContainsFunc(choices(x.l, x.width, 2), func(c choice) bool {
				return c.bits == x.bits && c.sub.Kind == want.Kind && c.sub.Order == want.Order && slices.Equal(c.sub.Coefs, want.Coefs)
			}) {
				t.Errorf("%v: %s has not %d bits", x.l, short(want), x.bits)
			}
		}
	}
}

// Few samples that are all 0 have fewer bits as what a predictor leaves over than as one of them.
func TestZeros(t *testing.T) {
	for level := range 3 {
		for count := 1; count <= 40; count++ {
			want := fixed(0).sub
			if 8+33 <= 8+10+count {
				want = constant
			}
			isOf(t, want, make([]int, count), 33, level)
		}
	}
}

// Samples of all sorts against the chapter's words, each at all levels.
func TestSubs(t *testing.T) {
	r := numbers(1225)
	for range 12000 {
		width := 1 + r.below(33)
		l := r.plane(1+r.below(48), width)
		for level := range 3 {
			isSub(t, l, width, level)
		}
	}
	for range 60 {
		width := 1 + r.below(33)
		l := r.plane(200+r.below(4000), width)
		for level := range 3 {
			isSub(t, l, width, level)
		}
	}
}

// All short rows of a width.
func TestAllShortRows(t *testing.T) {
	for width := 1; width <= 4; width++ {
		many := power(width)
		for code := range power(4 * width) {
			l := make([]int, 4)
			for i := range l {
				l[i] = code/power(i*width)%many - many/2
			}
			for count := 1; count <= 4; count++ {
				if count < 4 && code >= power(count*width) {
					continue
				}
				isSub(t, l[:count], width, 1+code%2)
			}
		}
	}
}
