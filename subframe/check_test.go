package subframe_test

import (
	"math"
	"slices"
	"testing"

	"lacquer/api"
	"lacquer/subframe"
)

// Promise 10.1, Check.

// ofEachKind is a Sub of each Kind that may be for a block of 1 and of each greater one, with a width of 1 and each greater one.
func ofEachKind() []api.Sub {
	return []api.Sub{
		{Kind: api.SubConstant},
		{Kind: api.SubVerbatim},
		fixed(0, coded(0)),
		fixed(1, coded(3)),
		lpc(1, 0, coded(3), -1),
		lpc(15, 15, escaped(0), 16383),
	}
}

func TestExamplesOfCheck(t *testing.T) {
	isCheck(t, api.Sub{Kind: api.SubFixed, Order: 5}, 16, 8, api.ErrRecipe)
	isCheck(t, fixed(5, coded(0)), 16, 8, api.ErrRecipe)
	isCheck(t, api.Sub{}, 16, 8, api.OK)
	isCheck(t, api.Sub{Wasted: 2}, 16, 8, api.OK)
	isCheck(t, api.Sub{Kind: api.SubVerbatim}, 16, 4, api.OK)
}

func TestBlocksOfCheck(t *testing.T) {
	for _, s := range ofEachKind() {
		for _, width := range []int{1, 8, 33} {
			for _, block := range []int{1, 2, 3, 15, 16, 4096, 65534, 65535} {
				isCheck(t, s, block, width, api.OK)
			}
			for _, block := range []int{math.MinInt, -65535, -1, 0, 65536, 65537, 1 << 32, math.MaxInt} {
				isCheck(t, s, block, width, api.ErrRecipe)
			}
		}
	}
}

func TestWidthsOfCheck(t *testing.T) {
	for _, s := range ofEachKind() {
		for _, block := range []int{1, 16, 65535} {
			for width := 1; width <= 33; width++ {
				isCheck(t, s, block, width, api.OK)
			}
			for _, width := range []int{math.MinInt, -33, -1, 0, 34, 35, 64, 65, math.MaxInt} {
				isCheck(t, s, block, width, api.ErrRecipe)
			}
		}
	}
}

func TestWastedOfCheck(t *testing.T) {
	for _, s := range ofEachKind() {
		for width := 1; width <= 33; width++ {
			for wasted := range width {
				isCheck(t, wasting(s, wasted), 16, width, api.OK)
			}
			for _, wasted := range []int{math.MinInt, -width, -1, width, width + 1, 34, 64, math.MaxInt} {
				isCheck(t, wasting(s, wasted), 16, width, api.ErrRecipe)
			}
		}
		// Where there is no such width, no Wasted helps.
		for _, width := range []int{-1, 0, 34, 64} {
			for wasted := -2; wasted <= 64; wasted++ {
				isCheck(t, wasting(s, wasted), 16, width, api.ErrRecipe)
			}
		}
	}
}

func TestKindsThatAreNone(t *testing.T) {
	for _, s := range ofEachKind() {
		for _, kind := range []int{math.MinInt, -2, -1, 4, 5, 8, 31, 32, math.MaxInt} {
			s.Kind = kind
			isCheck(t, s, 16, 8, api.ErrRecipe)
			isCheck(t, api.Sub{Kind: kind}, 16, 8, api.ErrRecipe)
		}
	}
}

// For each Kind each field that it does not name, as little beside zero as may be.
func TestWhatAKindDoesNotName(t *testing.T) {
	fields := map[string]func(*api.Sub){
		"Order":             func(s *api.Sub) { s.Order = 1 },
		"Precision":         func(s *api.Sub) { s.Precision = 1 },
		"Shift":             func(s *api.Sub) { s.Shift = 1 },
		"Coefs":             func(s *api.Sub) { s.Coefs = []int{0} },
		"Method":            func(s *api.Sub) { s.Rice.Method = 1 },
		"Rice's":            func(s *api.Sub) { s.Rice.Order = 1 },
		"Params":            func(s *api.Sub) { s.Rice.Params = []int{0} },
		"Escapes":           func(s *api.Sub) { s.Rice.Escapes = []int{0} },
		"below 0":           func(s *api.Sub) { s.Order = -1 },
		"Precision below 0": func(s *api.Sub) { s.Precision = -1 },
		"Shift below 0":     func(s *api.Sub) { s.Shift = -1 },
		"Method below 0":    func(s *api.Sub) { s.Rice.Method = -1 },
		"Rice's below 0":    func(s *api.Sub) { s.Rice.Order = -1 },
		"Rice":              func(s *api.Sub) { s.Rice = coded(0) },
		"coded":             func(s *api.Sub) { s.Rice.Escapes = []int{-1} },
	}
	for name, change := range fields {
		for kind := range 2 {
			s := api.Sub{Kind: kind}
			change(&s)
			if e := checkOf(s); e != api.ErrRecipe {
				t.Errorf("Kind %d, %s: error %d", kind, name, e)
			}
		}
	}
	for _, name := range []string{"Precision", "Shift", "Coefs", "Precision below 0", "Shift below 0"} {
		for order := range 5 {
			s := fixed(order, coded(0))
			fields[name](&s)
			if e := checkOf(s); e != api.ErrRecipe {
				t.Errorf("SubFixed of %d, %s: error %d", order, name, e)
			}
		}
	}
}

// A list that is empty is the same as none (R3).
func TestEmptyListsOfCheck(t *testing.T) {
	for kind := range 2 {
		s := api.Sub{Kind: kind, Coefs: []int{}, Rice: api.Rice{Params: make([]int, 0, 4), Escapes: []int{}}}
		isCheck(t, s, 16, 8, api.OK)
	}
	s := fixed(2, coded(0))
	s.Coefs = make([]int, 0, 8)
	isCheck(t, s, 16, 8, api.OK)
}

func TestOrdersOfFixed(t *testing.T) {
	for _, block := range []int{1, 2, 3, 4, 5, 6, 16, 65535} {
		for order := range 8 {
			want := api.OK
			if order > 4 || order > block {
				want = api.ErrRecipe
			}
			isCheck(t, fixed(order, coded(0)), block, 8, want)
			isCheck(t, fixed(order, escaped(0)), block, 8, want)
		}
		for _, order := range []int{math.MinInt, -1, 32, 33, math.MaxInt} {
			isCheck(t, fixed(order, coded(0)), block, 8, api.ErrRecipe)
		}
	}
}

func TestOrdersOfLpc(t *testing.T) {
	for _, block := range []int{1, 2, 3, 16, 31, 32, 33, 34, 65535} {
		for order := range 36 {
			want := api.OK
			if order < 1 || order > 32 || order > block {
				want = api.ErrRecipe
			}
			isCheck(t, lpc(4, 3, coded(2), make([]int, order)...), block, 8, want)
		}
		for _, order := range []int{math.MinInt, -1, 0, math.MaxInt} {
			s := lpc(4, 3, coded(2))
			s.Order = order
			isCheck(t, s, block, 8, api.ErrRecipe)
			s.Coefs = []int{1}
			isCheck(t, s, block, 8, api.ErrRecipe)
		}
	}
}

// One coefficient too few, and one too many.
func TestCountsOfCoefs(t *testing.T) {
	for order := 1; order <= 32; order++ {
		for count := range 40 {
			s := lpc(4, 3, coded(2), make([]int, count)...)
			s.Order = order
			want := api.OK
			if count != order {
				want = api.ErrRecipe
			}
			isCheck(t, s, 40, 8, want)
		}
	}
}

func TestPrecisionsAndShifts(t *testing.T) {
	for precision := -3; precision <= 20; precision++ {
		for shift := -3; shift <= 35; shift++ {
			want := api.OK
			if precision < 1 || precision > 15 || shift < 0 || shift > 15 {
				want = api.ErrRecipe
			}
			isCheck(t, lpc(precision, shift, coded(0), 0, 0), 4, 8, want)
		}
	}
	for _, n := range []int{math.MinInt, -64, 63, 64, 65, math.MaxInt} {
		isCheck(t, lpc(n, 0, coded(0), 0), 4, 8, api.ErrRecipe)
		isCheck(t, lpc(4, n, coded(0), 0), 4, 8, api.ErrRecipe)
	}
}

// Each Precision's least and greatest coefficient, and one past either, at each place.
func TestCoefsOfEachPrecision(t *testing.T) {
	for precision := 1; precision <= 15; precision++ {
		half := power(precision - 1)
		for at := range 5 {
			coefs := make([]int, 5)
			for _, c := range []int{-half, half - 1, 0, -1} {
				coefs[at] = c
				isCheck(t, lpc(precision, 0, coded(0), coefs...), 16, 8, api.OK)
			}
			for _, c := range []int{-half - 1, half, math.MinInt, math.MaxInt, 1 << 32, -1 << 32, 1<<32 + 1} {
				coefs[at] = c
				isCheck(t, lpc(precision, 0, coded(0), coefs...), 16, 8, api.ErrRecipe)
			}
		}
	}
}

// A Rice that may not be for the block and the Order.
func TestRicesThatMayNotBe(t *testing.T) {
	two := api.Rice{Order: 1, Params: []int{1, 2}, Escapes: []int{-1, -1}}
	for _, s := range []api.Sub{fixed(2, coded(0)), lpc(4, 2, coded(0), 3, -2)} {
		s.Rice = two
		isCheck(t, s, 16, 8, api.OK)
		isCheck(t, s, 4, 8, api.OK)
		isCheck(t, s, 3, 8, api.ErrRecipe)
		isCheck(t, s, 2, 8, api.ErrRecipe)
		isCheck(t, s, 15, 8, api.ErrRecipe)
		wrong := []api.Rice{
			{},
			{Method: 2, Params: []int{0}, Escapes: []int{-1}},
			{Method: -1, Params: []int{0}, Escapes: []int{-1}},
			{Order: 1, Params: []int{0}, Escapes: []int{-1}},
			{Order: -1, Params: []int{0}, Escapes: []int{-1}},
			{Order: 16, Params: []int{0}, Escapes: []int{-1}},
			{Params: []int{0}},
			{Escapes: []int{-1}},
			{Params: []int{0, 0}, Escapes: []int{-1, -1}},
			coded(15), coded(-1), escaped(32), escaped(-2),
			{Method: 1, Params: []int{31}, Escapes: []int{-1}},
			{Params: []int{1}, Escapes: []int{4}},
		}
		for _, r := range wrong {
			s.Rice = r
			isCheck(t, s, 16, 8, api.ErrRecipe)
		}
		for _, r := range []api.Rice{coded(14), escaped(31), escaped(0), {Method: 1, Params: []int{30}, Escapes: []int{-1}}} {
			s.Rice = r
			isCheck(t, s, 16, 8, api.OK)
		}
	}
}

// Made up Subs, each with a field or two changed.
func TestMadeUpSubsOfCheck(t *testing.T) {
	r := numbers(1011)
	for range 20000 {
		s := r.sample()
		block := len(s.list)
		isCheck(t, s.sub, block, s.width, api.OK)
		for range 1 + r.below(2) {
			r.change(&s.sub, &block, &s.width)
		}
		want := api.ErrRecipe
		if mayBe(s.sub, block, s.width) {
			want = api.OK
		}
		isCheck(t, s.sub, block, s.width, want)
	}
}

// change makes something of a Sub, its block or its width another one.
func (r *numbers) change(s *api.Sub, block, width *int) {
	by := r.below(5) - 2
	switch r.below(12) {
	case 0:
		s.Kind = r.below(6) - 1
	case 1:
		s.Order += by
	case 2:
		s.Wasted += by
	case 3:
		s.Precision += by
	case 4:
		s.Shift += by
	case 5:
		s.Coefs = append(slices.Clone(s.Coefs), by)
	case 6:
		s.Coefs = slices.Clone(s.Coefs)
		for i := range s.Coefs {
			s.Coefs[i] += by * power(r.below(15))
		}
	case 7:
		s.Rice.Order += by
	case 8:
		s.Rice.Method += by
	case 9:
		s.Rice = coded(r.below(18))
	case 10:
		*block += by
	case 11:
		*width += by
	}
}

// checkOf is what Check answers for a block and a width that are right.
func checkOf(s api.Sub) api.Errno { return subframe.Check(s, 16, 8) }
