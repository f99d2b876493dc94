package subframe_test

import (
	"math"
	"slices"
	"strings"
	"testing"

	"lacquer/api"
	"lacquer/bits"
	"lacquer/subframe"
)

// Promise 10.1, Encode.

func TestExamplesOfEncode(t *testing.T) {
	isEncode(t, sample{api.Sub{}, 8, slices.Repeat([]int{5}, 16)}, "0"+"000000"+"0"+"00000101", api.OK)
	isEncode(t, sample{api.Sub{Wasted: 2}, 8, slices.Repeat([]int{4}, 16)}, "0"+"000000"+"1"+"01"+"000001", api.OK)
	verbatim := api.Sub{Kind: api.SubVerbatim}
	isEncode(t, sample{verbatim, 4, []int{1, -1, 7, -8, 0}}, "0"+"000001"+"0"+"0001"+"1111"+"0111"+"1000"+"0000", api.OK)
	isNoEncode(t, sample{api.Sub{Kind: api.SubFixed, Order: 5}, 8, make([]int, 16)})
	isNoEncode(t, sample{fixed(5, coded(0)), 8, make([]int, 16)})
}

// Each Kind, with and without wasted bits.
func TestEncodeByHand(t *testing.T) {
	one := api.Sub{}
	isEncode(t, sample{one, 1, []int{-1}}, "0"+"000000"+"0"+"1", api.OK)
	isEncode(t, sample{wasting(one, 1), 4, []int{-6, -6}}, "0"+"000000"+"1"+"1"+"101", api.OK)
	isEncode(t, sample{wasting(one, 5), 8, make([]int, 3)}, "0"+"000000"+"1"+"00001"+"000", api.OK)
	verbatim := api.Sub{Kind: api.SubVerbatim}
	isEncode(t, sample{wasting(verbatim, 3), 5, []int{8, -16, -8, 0}}, "0"+"000001"+"1"+"001"+"01"+"10"+"11"+"00", api.OK)

	isEncode(t, sample{fixed(0, coded(0)), 4, []int{0, -1, 1}}, "0"+"001000"+"0"+"000000"+"0000"+"1"+"01"+"001", api.OK)
	isEncode(t, sample{fixed(1, coded(0)), 8, []int{5, 6, 7}}, "0"+"001001"+"0"+"00000101"+"000000"+"0000"+"001"+"001", api.OK)
	isEncode(t, sample{fixed(2, coded(1)), 8, []int{1, 2, 3, 5}}, "0"+"001010"+"0"+"00000001"+"00000010"+"000000"+"0001"+"10"+"010", api.OK)
	isEncode(t, sample{fixed(3, coded(0)), 8, []int{1, 4, 9, 15}}, "0"+"001011"+"0"+"00000001"+"00000100"+"00001001"+"000000"+"0000"+"01", api.OK)
	isEncode(t, sample{fixed(4, escaped(2)), 8, []int{1, 8, 27, 64, 123}}, "0"+"001100"+"0"+"00000001"+"00001000"+"00011011"+"01000000"+"000000"+"1111"+"00010"+"10", api.OK)
	isEncode(t, sample{wasting(fixed(1, coded(0)), 2), 6, []int{-32, -28, -28}}, "0"+"001001"+"1"+"01"+"1000"+"000000"+"0000"+"001"+"1", api.OK)

	half := lpc(3, 1, coded(0), 3, -1)
	isEncode(t, sample{half, 5, []int{2, 4, 5}}, "0"+"100001"+"0"+"00010"+"00100"+"0010"+"00001"+"011"+"111"+"000000"+"0000"+"1", api.OK)
	isEncode(t, sample{wasting(half, 1), 6, []int{4, 8, 12}}, "0"+"100001"+"1"+"1"+"00010"+"00100"+"0010"+"00001"+"011"+"111"+"000000"+"0000"+"001", api.OK)
	isEncode(t, sample{lpc(1, 15, escaped(3), -1), 4, []int{7, -3}}, "0"+"100000"+"0"+"0111"+"0000"+"01111"+"1"+"000000"+"1111"+"00011"+"110", api.OK)
}

// The first coefficients of the greatest Order, and no residuals at all.
func TestGreatestOrder(t *testing.T) {
	coefs, l := make([]int, 32), make([]int, 32)
	for i := range 32 {
		coefs[i], l[i] = i-16, 16-i
	}
	d := "0" + "111111" + "0" + each(l, 6) + "0100" + "00011" + each(coefs, 5) + "000000" + "0110"
	isEncode(t, sample{lpc(5, 3, coded(6), coefs...), 6, l}, d, api.OK)
}

// All that may be wrong at once: the writer goes ahead.
func TestNilWriter(t *testing.T) {
	for _, s := range []api.Sub{{}, {Kind: 9}, fixed(5, coded(0)), fixed(0, coded(0))} {
		for _, width := range []int{-1, 0, 8, 34} {
			for _, l := range [][]int{nil, {}, {1}, {1, 2}, {1 << 40}} {
				if e := subframe.Encode(nil, s, width, l); e != api.ErrArg {
					t.Errorf("Encode(nil, %s, %d, %v): error %d", short(s), width, l, e)
				}
			}
		}
	}
}

// The block is as many numbers as l has.
func TestBlocksOfEncode(t *testing.T) {
	for _, s := range ofEachKind() {
		isNoEncode(t, sample{s, 8, nil})
		isNoEncode(t, sample{s, 8, []int{}})
		for _, block := range []int{1, 2, 65534, 65535} {
			l := sample{s, 8, make([]int, block)}
			d, e := encodeModel(s, 8, l.list)
			if e != api.OK {
				t.Fatalf("%s: error %d", short(s), e)
			}
			isEncode(t, l, d, api.OK)
		}
		isNoEncode(t, sample{s, 8, make([]int, 65536)})
		isNoEncode(t, sample{s, 8, make([]int, 70000)})
	}
	isNoEncode(t, sample{fixed(4, coded(0)), 8, make([]int, 3)})
	isNoEncode(t, sample{lpc(4, 0, coded(0), 1, 1, 1), 8, make([]int, 2)})
	isNoEncode(t, sample{fixed(0, api.Rice{Order: 1, Params: []int{0, 0}, Escapes: []int{-1, -1}}), 8, make([]int, 3)})
}

func TestWidthsOfEncode(t *testing.T) {
	for _, s := range ofEachKind() {
		for _, width := range []int{math.MinInt, -1, 0, 34, 35, 64, 65, math.MaxInt} {
			isNoEncode(t, sample{s, width, make([]int, 4)})
			isNoEncode(t, sample{wasting(s, 1), width, make([]int, 4)})
		}
	}
}

// What Check refuses, Encode does not write.
func TestSubsThatMayNotBe(t *testing.T) {
	for _, s := range ofEachKind() {
		l := make([]int, 16)
		for _, wasted := range []int{-1, 8, 9, math.MinInt, math.MaxInt} {
			isNoEncode(t, sample{wasting(s, wasted), 8, l})
		}
		for _, kind := range []int{-1, 4, 5} {
			s := s
			s.Kind = kind
			isNoEncode(t, sample{s, 8, l})
		}
	}
	r := numbers(1021)
	for range 5000 {
		s := r.sample()
		block, width := len(s.list), s.width
		r.change(&s.sub, &block, &width)
		if !mayBe(s.sub, len(s.list), s.width) {
			isNoEncode(t, s)
		}
	}
}

// Of each width and each Wasted the least and the greatest sample, and one past either, at each place of the block.
func TestEdgesOfSamples(t *testing.T) {
	wide := api.Rice{Method: 1, Params: []int{30}, Escapes: []int{-1}}
	subs := []api.Sub{{Kind: api.SubVerbatim}, fixed(0, wide), fixed(1, wide), fixed(4, wide), lpc(2, 1, wide, 1, -1)}
	for width := 1; width <= 33; width++ {
		for wasted := range width {
			half, step := power(width-1), power(wasted)
			for _, s := range subs {
				s.Wasted = wasted
				for at := range 5 {
					l := make([]int, 5)
					for _, n := range []int{-half, half - step} {
						l[at] = n
						d, e := encodeModel(s, width, l)
						if e != api.OK {
							t.Fatalf("%s, %d, %v: error %d", short(s), width, l, e)
						}
						isEncode(t, sample{s, width, l}, d, api.OK)
					}
					for _, n := range []int{-half - step, half, half + step, math.MinInt, math.MinInt + step, 1 << 62, -1 << 62} {
						l[at] = n
						isNoEncode(t, sample{s, width, l})
					}
				}
			}
			s := api.Sub{Wasted: wasted}
			for _, n := range []int{-half, half - step, 0} {
				isEncode(t, sample{s, width, []int{n, n}}, headDigits(s)+digits(n/step, width-wasted), api.OK)
			}
			for _, n := range []int{-half - step, half, math.MinInt, 1 << 62} {
				isNoEncode(t, sample{s, width, []int{n, n}})
			}
		}
	}
}

// Samples that 2^Wasted does not divide, though half of it does.
func TestSamplesThatWastedDoesNotDivide(t *testing.T) {
	for _, s := range ofEachKind() {
		for wasted := 1; wasted <= 30; wasted++ {
			s.Wasted = wasted
			for _, n := range []int{power(wasted - 1), -power(wasted - 1), 3 * power(wasted-1), 1, -1} {
				isNoEncode(t, sample{s, 33, []int{n, n, n}})
				isNoEncode(t, sample{s, 33, []int{n}})
				isNoEncode(t, sample{s, 33, []int{0, 0, n}})
				isNoEncode(t, sample{s, 33, []int{0, n, 0}})
			}
		}
	}
}

// The most wasted bits that may be, of the greatest width: a sample has one bit.
func TestMostWasted(t *testing.T) {
	l := []int{0, -1 << 32, -1 << 32, 0}
	head := "1" + strings.Repeat("0", 31) + "1"
	isEncode(t, sample{api.Sub{Kind: api.SubVerbatim, Wasted: 32}, 33, l}, "0"+"000001"+head+"0110", api.OK)
	isEncode(t, sample{api.Sub{Wasted: 32}, 33, l[1:3]}, "0"+"000000"+head+"1", api.OK)
	isEncode(t, sample{wasting(fixed(1, coded(0)), 32), 33, l}, "0"+"001001"+head+"0"+"0000000000"+"01"+"1"+"001", api.OK)
	isEncode(t, sample{wasting(lpc(2, 0, coded(0), 1), 32), 33, l}, "0"+"100000"+head+"0"+"0001"+"00000"+"01"+"0000000000"+"01"+"1"+"001", api.OK)
	for _, n := range []int{-1 << 31, 1 << 31, 1 << 32, -1 << 33, 1} {
		isNoEncode(t, sample{api.Sub{Kind: api.SubVerbatim, Wasted: 32}, 33, []int{n}})
		isNoEncode(t, sample{api.Sub{Wasted: 32}, 33, []int{n}})
	}
}

// With SubConstant all are the same.
func TestConstantsThatAreNone(t *testing.T) {
	isNoEncode(t, sample{api.Sub{}, 8, []int{1, 2}})
	for block := 2; block <= 9; block++ {
		for at := range block {
			l := slices.Repeat([]int{4}, block)
			l[at] = 8
			isNoEncode(t, sample{api.Sub{}, 8, l})
			isNoEncode(t, sample{api.Sub{Wasted: 2}, 8, l})
			l[at] = -4
			isNoEncode(t, sample{api.Sub{}, 8, l})
		}
	}
	l := slices.Repeat([]int{7}, 65535)
	l[65534] = 6
	isNoEncode(t, sample{api.Sub{}, 8, l})
}

// Residuals that the Rice can't take: past an escape's bits, or with too long a code.
func TestResidualsThatRiceRefuses(t *testing.T) {
	for e := 1; e <= 20; e++ {
		half := power(e - 1)
		isNoEncode(t, sample{fixed(0, escaped(e)), 33, []int{0, 0, half}})
		isNoEncode(t, sample{fixed(0, escaped(e)), 33, []int{-half - 1, 0, 0}})
		isNoEncode(t, sample{fixed(1, escaped(e)), 33, []int{1000, 1000 + half}})
		isNoEncode(t, sample{lpc(2, 0, escaped(e), 1), 33, []int{1000, 999 - half}})
		isNoEncode(t, sample{wasting(fixed(1, escaped(e)), 3), 33, []int{0, 8 * half}})
		for _, s := range []sample{
			{fixed(0, escaped(e)), 33, []int{0, -half, half - 1}},
			{fixed(1, escaped(e)), 33, []int{1000, 999 + half}},
			{lpc(2, 0, escaped(e), 1), 33, []int{1000, 1000 - half}},
			{wasting(fixed(1, escaped(e)), 3), 33, []int{0, 8*half - 8}},
		} {
			d, _ := encodeModel(s.sub, s.width, s.list)
			isEncode(t, s, d, api.OK)
		}
	}
	isNoEncode(t, sample{fixed(0, escaped(0)), 8, []int{0, 1}})
	isNoEncode(t, sample{fixed(2, escaped(0)), 8, []int{1, 2, 3, 5}})
	isEncode(t, sample{fixed(2, escaped(0)), 8, []int{1, 2, 3, 4}}, "0"+"001010"+"0"+"00000001"+"00000010"+"000000"+"1111"+"00000", api.OK)
	for _, n := range []int{1<<23 + 1, -1<<23 - 1, 1<<32 - 1, -1 << 32} {
		isNoEncode(t, sample{fixed(0, coded(0)), 33, []int{0, n}})
		isNoEncode(t, sample{fixed(1, coded(0)), 33, []int{0, n}})
		isNoEncode(t, sample{lpc(1, 0, coded(0), 0), 33, []int{0, n}})
	}
}

// The longest code that may be is written whole, behind what the writer has.
func TestLongestCode(t *testing.T) {
	w := bits.New()
	w.Put(5, 3)
	if e := subframe.Encode(w, fixed(1, coded(0)), 33, []int{3, 3 + 1<<23}); e != api.OK {
		t.Fatalf("error %d", e)
	}
	d := "101" + "0" + "001001" + "0" + digits(3, 33) + "000000" + "0000" + strings.Repeat("0", 1<<24) + "1"
	if w.Len() != len(d) || w.Bytes() != packed(d) {
		t.Fatalf("%d bits, not %d", w.Len(), len(d))
	}
}

// An error leaves a writer to which something else can be written right behind.
func TestWriterAfterAnError(t *testing.T) {
	w := bits.New()
	w.Put(1, 1)
	subframe.Encode(w, fixed(1, escaped(1)), 8, []int{5, 6, 7})
	subframe.Encode(w, api.Sub{}, 8, []int{5, 6})
	subframe.Encode(w, api.Sub{}, 8, []int{5, 5})
	subframe.Encode(w, api.Sub{Wasted: 1}, 8, []int{5, 5})
	w.Put(1, 1)
	if d := "1" + "0" + "000000" + "0" + "00000101" + "1"; w.Len() != len(d) || w.Bytes() != packed(d) {
		t.Errorf("%s", digitsOf(w.Bytes()))
	}
}

// Made up samples, as they are and with one of them changed.
func TestMadeUpEncode(t *testing.T) {
	r := numbers(1022)
	for range 4000 {
		s := r.sample()
		d, e := encodeModel(s.sub, s.width, s.list)
		if e != api.OK {
			t.Fatalf("%s, %s: error %d", short(s.sub), short(s.list), e)
		}
		isEncode(t, s, d, api.OK)
		s.list = slices.Clone(s.list)
		s.list[r.below(len(s.list))] += r.signed(s.width)
		d, e = encodeModel(s.sub, s.width, s.list)
		isEncode(t, s, d, e)
	}
}
