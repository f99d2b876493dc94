package rice_test

import (
	"math"
	"slices"
	"strings"
	"testing"

	"lacquer/api"
	"lacquer/bits"
	"lacquer/rice"
)

// Promise 8.1.

func TestExamplesOfEncode(t *testing.T) {
	isEncode(t, sample{coded(0, 0, 0), 4, 0, []int{0, -1, 1, 2}}, "00"+"0000"+"0000"+"1"+"01"+"001"+"00001", api.OK)
	isEncode(t, sample{escaped(0, 0, 0), 3, 0, []int{0, 0, 0}}, "00"+"0000"+"1111"+"00000", api.OK)
	isEncode(t, sample{coded(0, 2, 0, 0, 0, 0), 6, 0, make([]int, 6)}, "", api.ErrRecipe)
	isCheck(t, coded(0, 2, 0, 0, 0, 0), 6, 0, api.ErrRecipe)
	isCheck(t, coded(0, 2, 0, 0, 0, 0), 8, 0, api.OK)
}

func TestCodesByHand(t *testing.T) {
	// Two partitions, the first of one number: -3 is u 5, with the parameter 1: 00 1 1.
	isEncode(t, sample{coded(0, 1, 1, 3), 4, 1, []int{-3, 9, -9}}, "00"+"0001"+"0001"+"0011"+"0011"+"001"+"010"+"001"+"001", api.OK)
	isEncode(t, sample{coded(1, 0, 20), 2, 1, []int{1}}, "01"+"0000"+"10100"+"1"+strings.Repeat("0", 18)+"10", api.OK)
	isEncode(t, sample{escaped(1, 0, 4), 3, 0, []int{-8, 7, -1}}, "01"+"0000"+"11111"+"00100"+"1000"+"0111"+"1111", api.OK)
	mixed := api.Rice{Method: 0, Order: 1, Params: []int{0, 2}, Escapes: []int{3, -1}}
	isEncode(t, sample{mixed, 4, 0, []int{-4, 3, 0, 2}}, "00"+"0001"+"1111"+"00011"+"100"+"011"+"0010"+"100"+"0100", api.OK)
}

// isAsModel fails, unless Check and Encode answer what the model does.
func isAsModel(t *testing.T, s sample) {
	t.Helper()
	want := api.OK
	if !mayBe(s.rice, s.block, s.order) {
		want = api.ErrRecipe
	}
	isCheck(t, s.rice, s.block, s.order, want)
	d, e := encodeModel(s.rice, s.block, s.order, s.list)
	isEncode(t, s, d, e)
}

func TestMethods(t *testing.T) {
	for _, method := range []int{math.MinInt, -1, 0, 1, 2, 3, 4, math.MaxInt} {
		s := sample{coded(0, 0, 3), 5, 2, []int{1, 2, 3}}
		s.rice.Method = method
		isAsModel(t, s)
		s.rice.Params, s.rice.Escapes = []int{0}, []int{6}
		isAsModel(t, s)
	}
	isCheck(t, coded(0, 0, 0), 1, 0, api.OK)
	isCheck(t, coded(1, 0, 0), 1, 0, api.OK)
	isCheck(t, coded(-1, 0, 0), 1, 0, api.ErrRecipe)
	isCheck(t, coded(2, 0, 0), 1, 0, api.ErrRecipe)
}

// flat is a Rice of 2^power partitions, all with the parameter 0.
func flat(power int) api.Rice {
	return coded(0, power, make([]int, 1<<max(0, min(power, 16)))...)
}

func TestOrders(t *testing.T) {
	for power := -2; power <= 18; power++ {
		want := api.OK
		if power < 0 || power > 15 {
			want = api.ErrRecipe
		}
		isCheck(t, flat(power), 32768, 0, want)
		isCheck(t, flat(power), 32768, 1, want)
		isCheck(t, flat(power), 1<<max(0, power), 0, want)
		if power > 0 && power < 15 {
			isCheck(t, flat(power), 3<<power, 0, api.OK)
			isCheck(t, flat(power), 3<<power+1, 0, api.ErrRecipe)
			isCheck(t, flat(power), 3<<power-1, 0, api.ErrRecipe)
			isCheck(t, flat(power), 3<<power/2, 0, api.ErrRecipe)
			isCheck(t, flat(power), 32767, 0, api.ErrRecipe)
		}
	}
	for _, power := range []int{math.MinInt, -64, 63, 64, 65, math.MaxInt} {
		isCheck(t, flat(power), 32768, 0, api.ErrRecipe)
		isCheck(t, coded(0, power), 32768, 0, api.ErrRecipe)
	}
	s := sample{flat(15), 32768, 0, make([]int, 32768)}
	isAsModel(t, s)
	s.rice.Order = 16
	isAsModel(t, s)
	s = sample{flat(15), 32768, 1, make([]int, 32767)}
	isAsModel(t, s)
}

func TestBlocks(t *testing.T) {
	for _, block := range []int{math.MinInt, -65535, -2, -1, 0, 65536, 65537, 1 << 32, math.MaxInt} {
		isCheck(t, flat(0), block, 0, api.ErrRecipe)
		isEncode(t, sample{flat(0), block, 0, nil}, "", api.ErrRecipe)
		isEncode(t, sample{flat(0), block, block, nil}, "", api.ErrRecipe)
		isEncode(t, sample{flat(0), block, 0, []int{1}}, "", api.ErrRecipe)
	}
	isEncode(t, sample{flat(0), 65536, 0, make([]int, 65536)}, "", api.ErrRecipe)
	for _, block := range []int{1, 2, 65534, 65535} {
		isCheck(t, flat(0), block, 0, api.OK)
		isAsModel(t, sample{flat(0), block, 0, make([]int, block)})
		isAsModel(t, sample{flat(0), block, 1, make([]int, block-1)})
	}
}

func TestPredictorsOrders(t *testing.T) {
	for _, order := range []int{math.MinInt, -33, -1, 33, 34, 64, math.MaxInt} {
		isCheck(t, flat(0), 64, order, api.ErrRecipe)
		isEncode(t, sample{flat(0), 64, order, make([]int, 64-min(max(order, -1), 64))}, "", api.ErrRecipe)
	}
	for order := range 33 {
		isAsModel(t, sample{flat(0), 64, order, make([]int, 64-order)})
		// As great as the block, and as a partition: it has no numbers. One more: there is no such Rice.
		if order > 0 {
			isCheck(t, flat(0), order, order, api.OK)
			isAsModel(t, sample{flat(0), order, order, nil})
			isCheck(t, flat(0), order, order+1, api.ErrRecipe)
			isAsModel(t, sample{flat(0), order, order + 1, nil})
			isCheck(t, flat(1), 2*order, order, api.OK)
			isAsModel(t, sample{coded(0, 1, 14, 2), 2 * order, order, slices.Repeat([]int{-5}, order)})
			isCheck(t, flat(1), 2*order, order+1, api.ErrRecipe)
			isAsModel(t, sample{flat(1), 2 * order, order + 1, make([]int, order-1)})
		}
	}
}

func TestParams(t *testing.T) {
	for method, top := range []int{14, 30} {
		for _, k := range []int{math.MinInt, -2, -1, 0, 1, 13, 14, 15, 16, 29, 30, 31, 32, math.MaxInt} {
			want := api.OK
			if k < 0 || k > top {
				want = api.ErrRecipe
			}
			isCheck(t, coded(method, 0, k), 3, 0, want)
			isCheck(t, coded(method, 1, 0, k), 4, 0, want)
			isCheck(t, coded(method, 1, k, 0), 4, 2, want)
			isAsModel(t, sample{coded(method, 1, k, 0), 4, 1, []int{-7, 0, 6}})
			isAsModel(t, sample{coded(method, 1, 0, k), 4, 1, []int{-7, 0, 6}})
		}
	}
}

func TestEscapes(t *testing.T) {
	for method := range 2 {
		for _, escape := range []int{math.MinInt, -3, -2, -1, 0, 1, 2, 30, 31, 32, 33, 64, math.MaxInt} {
			for _, k := range []int{-1, 0, 1, 14, 15, 30, 31} {
				r := api.Rice{Method: method, Order: 1, Params: []int{0, k}, Escapes: []int{-1, escape}}
				for _, n := range []int{0, 1, -1, 5} {
					isAsModel(t, sample{r, 4, 1, []int{2, n, 0}})
				}
				if escape >= 0 && k != 0 {
					isCheck(t, r, 4, 1, api.ErrRecipe)
				}
			}
		}
		isCheck(t, escaped(method, 0, 0), 1, 0, api.OK)
		isCheck(t, escaped(method, 0, 31), 1, 0, api.OK)
		isCheck(t, escaped(method, 0, 32), 1, 0, api.ErrRecipe)
		isCheck(t, escaped(method, 0, -2), 1, 0, api.ErrRecipe)
	}
}

// So many bits hold the least and the greatest number, and none below or above.
func TestWhatBitsHold(t *testing.T) {
	for method := range 2 {
		isEncode(t, sample{escaped(method, 0, 0), 1, 0, []int{0}}, digits(method, 2)+"0000"+strings.Repeat("1", 4+method)+"00000", api.OK)
		for _, n := range []int{-1, 1, math.MinInt, math.MaxInt} {
			isEncode(t, sample{escaped(method, 0, 0), 1, 0, []int{n}}, "", api.ErrRecipe)
		}
		for e := 1; e <= 31; e++ {
			least, greatest := -1<<(e-1), 1<<(e-1)-1
			s := sample{escaped(method, 0, e), 2, 0, []int{least, greatest}}
			head := digits(method, 2) + "0000" + strings.Repeat("1", 4+method) + digits(e, 5)
			isEncode(t, s, head+"1"+strings.Repeat("0", e-1)+"0"+strings.Repeat("1", e-1), api.OK)
			for _, n := range []int{least - 1, greatest + 1, math.MinInt, math.MaxInt, 1 << 32, -1 << 32} {
				isEncode(t, sample{s.rice, 2, 0, []int{0, n}}, "", api.ErrRecipe)
				isEncode(t, sample{s.rice, 2, 0, []int{n, 0}}, "", api.ErrRecipe)
			}
		}
	}
}

// Encode takes just what bits.Rice takes, and writes just that.
func TestWhatRiceTakes(t *testing.T) {
	for k := 0; k <= 30; k++ {
		last := most<<k + 1<<k - 1 // the greatest u that is taken
		for u := last - 1; u <= last+2; u++ {
			n := u / 2
			if u%2 == 1 {
				n = -(u + 1) / 2
			}
			want := bits.New()
			want.Put(1, 2)
			want.Put(0, 4)
			want.Put(uint64(k), 5)
			refused := want.Rice(n, k) != api.OK
			if refused != (u > last) {
				t.Fatalf("Rice(%d, %d)", n, k)
			}
			w := bits.New()
			e := rice.Encode(w, coded(1, 0, k), 1, 0, []int{n})
			if refused && (e != api.ErrRecipe || w.Len() != 0) || !refused && (e != api.OK || w.Bytes() != want.Bytes() || w.Len() != want.Len()) {
				t.Fatalf("Encode of %d with %d: error %d, %d bits", n, k, e, w.Len())
			}
		}
		for _, n := range []int{math.MinInt, math.MaxInt} {
			isEncode(t, sample{coded(1, 0, k), 1, 0, []int{n}}, "", api.ErrRecipe)
			isEncode(t, sample{coded(1, 1, 0, k), 4, 1, []int{1, 2, n}}, "", api.ErrRecipe)
		}
	}
}

func TestLengthsOfLists(t *testing.T) {
	r := coded(0, 1, 2, 3)
	for count := range 12 {
		want := api.ErrRecipe
		if count == 5 {
			want = api.OK
		}
		s := sample{r, 8, 3, slices.Repeat([]int{1}, count)}
		d, e := encodeModel(r, 8, 3, s.list)
		if e != want {
			t.Fatal(e)
		}
		isEncode(t, s, d, want)
	}
	for params := range 5 {
		for escapes := range 5 {
			r := api.Rice{Order: 1, Params: make([]int, params), Escapes: make([]int, escapes)}
			want := api.ErrRecipe
			if params == 2 && escapes == 2 {
				want = api.OK
			}
			isCheck(t, r, 4, 0, want)
			isAsModel(t, sample{r, 4, 0, make([]int, 4)})
		}
	}
	isCheck(t, api.Rice{}, 1, 0, api.ErrRecipe)
	isCheck(t, api.Rice{Params: []int{0}}, 1, 0, api.ErrRecipe)
	isCheck(t, api.Rice{Escapes: []int{-1}}, 1, 0, api.ErrRecipe)
}

// A list that is empty may be nil or of length 0.
func TestNoNumbers(t *testing.T) {
	isEncode(t, sample{coded(0, 0, 14), 7, 7, nil}, "0000001110", api.OK)
	isEncode(t, sample{coded(0, 0, 14), 7, 7, []int{}}, "0000001110", api.OK)
	isEncode(t, sample{escaped(1, 0, 31), 7, 7, []int{}}, "010000"+"11111"+"11111", api.OK)
}

// A writer that is none is told ahead of all else.
func TestNoWriter(t *testing.T) {
	for _, s := range []sample{
		{coded(0, 0, 0), 1, 0, []int{0}},
		{coded(2, 0, 0), 1, 0, []int{0}},
		{coded(0, 0, 0), 0, 0, nil},
		{coded(0, 0, 0), 1, 0, []int{math.MinInt}},
		{coded(0, 0, 0), 1, 0, nil},
		{api.Rice{}, -1, -1, nil},
	} {
		if e := rice.Encode(nil, s.rice, s.block, s.order, s.list); e != api.ErrArg {
			t.Errorf("%s: error %d", short(s.rice), e)
		}
	}
}

// A number that does not fit stands at each place of a list in turn; beside the error the writer gets nothing.
func TestOneNumberThatDoesNotFit(t *testing.T) {
	r := numbers(801)
	for range 60 {
		s := r.sample()
		isAsModel(t, s)
		for i := range s.list {
			was := s.list[i]
			s.list[i] = math.MinInt
			isEncode(t, s, "", api.ErrRecipe)
			s.list[i] = was
		}
		for i := range s.rice.Params {
			was := s.rice.Params[i]
			s.rice.Params[i] = 31
			isEncode(t, s, "", api.ErrRecipe)
			s.rice.Params[i] = was
		}
	}
}

func TestMadeUpEncode(t *testing.T) {
	r := numbers(802)
	for range 3000 {
		s := r.sample()
		switch r.below(12) {
		case 0:
			s.block += 1 - 2*r.below(2)
		case 1:
			s.order += 1 - 2*r.below(2)
		case 2:
			s.rice.Order += 1 - 2*r.below(2)
		case 3:
			s.rice.Method = r.below(4) - 1
		case 4:
			s.rice.Params[r.below(len(s.rice.Params))] = r.below(34) - 1
		case 5:
			s.rice.Escapes[r.below(len(s.rice.Params))] = r.below(35) - 2
		case 6:
			if len(s.list) > 0 {
				s.list[r.below(len(s.list))] = r.signed(22)
			}
		}
		isAsModel(t, s)
	}
}
