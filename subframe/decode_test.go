package subframe_test

import (
	"math"
	"slices"
	"strings"
	"testing"

	"lacquer/api"
	"lacquer/bits"
	"lacquer/subframe"
)

// Promise 10.2.

// none is the bits of a Rice that leaves nothing over.
const none = "00" + "0000" + "1111" + "00000"

func TestExamplesOfDecode(t *testing.T) {
	isDecode(t, "0"+"000000"+"0"+"00000101", sample{api.Sub{}, 8, slices.Repeat([]int{5}, 16)})
	isDecode(t, "0"+"000000"+"1"+"01"+"000001", sample{api.Sub{Wasted: 2}, 8, slices.Repeat([]int{4}, 16)})
	isDecode(t, "0"+"000001"+"0"+"0001"+"1111"+"0111"+"1000"+"0000", sample{api.Sub{Kind: api.SubVerbatim}, 4, []int{1, -1, 7, -8, 0}})
	isMalformed(t, "1"+"000000"+"0"+"00000101", 16, 8)
}

// Each Kind, with and without wasted bits.
func TestDecodeByHand(t *testing.T) {
	one := api.Sub{}
	isDecode(t, "0"+"000000"+"0"+"1", sample{one, 1, []int{-1}})
	isDecode(t, "0"+"000000"+"1"+"1"+"101", sample{wasting(one, 1), 4, []int{-6, -6}})
	verbatim := api.Sub{Kind: api.SubVerbatim}
	isDecode(t, "0"+"000001"+"1"+"001"+"01"+"10"+"11"+"00", sample{wasting(verbatim, 3), 5, []int{8, -16, -8, 0}})

	isDecode(t, "0"+"001000"+"0"+"000000"+"0000"+"1"+"01"+"001", sample{fixed(0, coded(0)), 4, []int{0, -1, 1}})
	isDecode(t, "0"+"001001"+"0"+"00000101"+"000000"+"0000"+"001"+"001", sample{fixed(1, coded(0)), 8, []int{5, 6, 7}})
	isDecode(t, "0"+"001010"+"0"+"00000001"+"00000010"+"000000"+"0001"+"10"+"010", sample{fixed(2, coded(1)), 8, []int{1, 2, 3, 5}})
	isDecode(t, "0"+"001011"+"0"+"00000001"+"00000100"+"00001001"+"000000"+"0000"+"01", sample{fixed(3, coded(0)), 8, []int{1, 4, 9, 15}})
	isDecode(t, "0"+"001100"+"0"+"00000001"+"00001000"+"00011011"+"01000000"+"000000"+"1111"+"00010"+"10", sample{fixed(4, escaped(2)), 8, []int{1, 8, 27, 64, 123}})
	isDecode(t, "0"+"001001"+"1"+"01"+"1000"+"000000"+"0000"+"001"+"1", sample{wasting(fixed(1, coded(0)), 2), 6, []int{-32, -28, -28}})

	half := lpc(3, 1, coded(0), 3, -1)
	isDecode(t, "0"+"100001"+"0"+"00010"+"00100"+"0010"+"00001"+"011"+"111"+"000000"+"0000"+"1", sample{half, 5, []int{2, 4, 5}})
	isDecode(t, "0"+"100001"+"1"+"1"+"00010"+"00100"+"0010"+"00001"+"011"+"111"+"000000"+"0000"+"001", sample{wasting(half, 1), 6, []int{4, 8, 12}})
	isDecode(t, "0"+"100000"+"0"+"0111"+"0000"+"01111"+"1"+"000000"+"1111"+"00011"+"110", sample{lpc(1, 15, escaped(3), -1), 4, []int{7, -3}})
	two := api.Rice{Method: 1, Order: 1, Params: []int{0, 17}, Escapes: []int{4, -1}}
	isDecode(t, "0"+"001001"+"0"+"0000"+"01"+"0001"+"11111"+"00100"+"0011"+"10001"+"1"+digits(2, 17)+"1"+digits(1, 17), sample{fixed(1, two), 4, []int{0, 3, 4, 3}})
}

// Arguments that may not be are told ahead of the bits, right or wrong.
func TestArgumentsOfDecode(t *testing.T) {
	good := packed("0" + "000000" + "0" + strings.Repeat("0", 64))
	for _, s := range []string{good, "", "\x80"} {
		for _, block := range []int{math.MinInt, -65535, -1, 0, 65536, 65537, math.MaxInt} {
			for _, width := range []int{-1, 0, 1, 8, 33, 34} {
				isNoDecode(t, bits.Of(s), block, width, api.ErrArg)
			}
		}
		for _, width := range []int{math.MinInt, -33, -1, 0, 34, 35, 64, 65, math.MaxInt} {
			for _, block := range []int{-1, 0, 1, 16, 65535, 65536} {
				isNoDecode(t, bits.Of(s), block, width, api.ErrArg)
			}
		}
	}
	for _, block := range []int{-1, 0, 1, 16, 65535, 65536} {
		for _, width := range []int{-1, 0, 1, 8, 33, 34} {
			isNoDecode(t, nil, block, width, api.ErrArg)
		}
	}
	for _, block := range []int{1, 2, 65534, 65535} {
		for width := 1; width <= 33; width++ {
			isDecode(t, "0"+"000000"+"0"+digits(-1, width), sample{api.Sub{}, width, slices.Repeat([]int{-1}, block)})
			isMalformed(t, "1"+"000000"+"0"+digits(-1, width), block, width)
		}
	}
}

// Each of the 64 types, with blocks of which their Order is the last that may be, and one less.
func TestTypesOfDecode(t *testing.T) {
	for code := range 64 {
		for _, flag := range []string{"0", "11"} {
			head := "0" + digits(code, 6) + flag
			wasted := len(flag) - 1
			switch {
			case code <= 1:
				isDecode(t, head+strings.Repeat("0", 4-wasted), sample{api.Sub{Kind: code, Wasted: wasted}, 4, make([]int, 1)})
			case code >= 8 && code <= 12:
				order := code - 8
				for _, block := range []int{max(order, 1), order + 1, 16} {
					isDecode(t, head+strings.Repeat("0", order*(4-wasted))+none, sample{wasting(fixed(order, escaped(0)), wasted), 4, make([]int, block)})
				}
				for block := 1; block < order; block++ {
					isMalformed(t, head+strings.Repeat("0", order*(4-wasted))+none, block, 4)
				}
			case code >= 32:
				order := code - 31
				body := strings.Repeat("0", order*(4-wasted)) + "0010" + "00001" + strings.Repeat("011", order) + none
				want := wasting(lpc(3, 1, escaped(0), slices.Repeat([]int{3}, order)...), wasted)
				for _, block := range []int{order, order + 1, 64} {
					isDecode(t, head+body, sample{want, 4, make([]int, block)})
				}
				for block := 1; block < order; block++ {
					isMalformed(t, head+body, block, 4)
				}
			default:
				for _, tail := range []string{"", "0000", strings.Repeat("0", 64) + none, strings.Repeat("1", 64)} {
					isMalformed(t, head+tail, 16, 4)
					isMalformed(t, head+tail, 1, 1)
					isMalformed(t, head+tail, 65535, 33)
				}
			}
		}
	}
}

// A first bit 1 spoils whatever is right behind it.
func TestFirstBit(t *testing.T) {
	r := numbers(1031)
	for range 500 {
		s := r.sample()
		d, _ := encodeModel(s.sub, s.width, s.list)
		isMalformed(t, "1"+d[1:], len(s.list), s.width)
	}
}

// Of each width each Wasted that may be, and those from the width on.
func TestWastedOfDecode(t *testing.T) {
	for width := 1; width <= 33; width++ {
		for wasted := 1; wasted <= 70; wasted++ {
			d := "0" + "000000" + "1" + strings.Repeat("0", wasted-1) + "1"
			if wasted < width {
				isDecode(t, d+digits(-1, width-wasted), sample{api.Sub{Wasted: wasted}, width, slices.Repeat([]int{-power(wasted)}, 3)})
				continue
			}
			isMalformed(t, d, 3, width)
			isMalformed(t, "0"+"000001"+d[7:], 3, width)
			isMalformed(t, "0"+"001000"+d[7:]+none, 3, width)
			isMalformed(t, "0"+"100000"+d[7:], 3, width)
		}
	}
	far := "0" + "000000" + "1" + strings.Repeat("0", 1<<24)
	isNoDecode(t, bits.Of(packed(far+"1"+"00000000")), 1, 33, api.ErrMalformed)
	isNoDecode(t, bits.Of(packed(far+"0"+"1"+"00000000")), 1, 33, api.ErrMalformed)
	isNoDecode(t, bits.Of(packed(far+strings.Repeat("0", 100))), 1, 33, api.ErrMalformed)
}

// The most wasted bits that may be, of the greatest width: a sample has one bit.
func TestMostWastedOfDecode(t *testing.T) {
	l := []int{0, -1 << 32, -1 << 32, 0}
	head := "1" + strings.Repeat("0", 31) + "1"
	isDecode(t, "0"+"000001"+head+"0110", sample{api.Sub{Kind: api.SubVerbatim, Wasted: 32}, 33, l})
	isDecode(t, "0"+"000000"+head+"1", sample{api.Sub{Wasted: 32}, 33, l[1:3]})
	isDecode(t, "0"+"001001"+head+"0"+"0000000000"+"01"+"1"+"001", sample{wasting(fixed(1, coded(0)), 32), 33, l})
	isDecode(t, "0"+"100000"+head+"0"+"0001"+"00000"+"01"+"0000000000"+"01"+"1"+"001", sample{wasting(lpc(2, 0, coded(0), 1), 32), 33, l})
}

// Each Precision and each Shift that the bits can say.
func TestPrecisionsAndShiftsOfDecode(t *testing.T) {
	for less := range 16 {
		for shift := range 32 {
			d := "0" + "100001" + "0" + "0000" + "0000" + digits(less, 4) + digits(shift, 5)
			if less == 15 || shift >= 16 {
				isMalformed(t, d+strings.Repeat("0", 2*(less+1))+none, 4, 4)
				isMalformed(t, d, 4, 4)
				continue
			}
			half := power(less)
			coefs := []int{-half, half - 1}
			isDecode(t, d+each(coefs, less+1)+none, sample{lpc(less+1, shift, escaped(0), coefs...), 4, make([]int, 4)})
		}
	}
}

// What rice.Decode refuses: a method, an order that does not cut the block or leaves the first partition too small, bits that hold no code.
func TestResidualsThatRiceDecodeRefuses(t *testing.T) {
	heads := []string{"0" + "001010" + "0" + "0000" + "0000", "0" + "100001" + "0" + "0000" + "0000" + "0000" + "00000" + "0" + "0"}
	for _, head := range heads {
		for _, tail := range []string{"10" + none[2:], "11" + none[2:], "00" + "0011" + strings.Repeat("1111"+"00000", 8), "00" + "0010" + strings.Repeat("1111"+"00000", 4)} {
			isMalformed(t, head+tail, 6, 4)
			isMalformed(t, head+tail, 4, 4)
		}
		isNoDecode(t, bits.Of(packed(head+"000000"+"0000"+strings.Repeat("0", 200))), 4, 4, api.ErrMalformed)
		isNoDecode(t, bits.Of(packed(head+"000000"+"0000"+strings.Repeat("0", 1<<24+1)+"1"+"11111111")), 4, 4, api.ErrMalformed)
	}
}

// Bits that end at each place of what was written.
func TestBitsThatEnd(t *testing.T) {
	r := numbers(1032)
	for kind := range 4 {
		for range 60 {
			s := r.sampleOf(kind)
			d, _ := encodeModel(s.sub, s.width, s.list)
			isDecode(t, d, s)
			for cut := range min(len(d), 4000) {
				// A reader ends at a whole byte: what is left stands at its end, behind as many bits as were read ahead.
				ahead := strings.Repeat("1", -cut&7)
				x := readerAt(ahead+d[:cut], len(ahead))
				isNoDecode(t, x, len(s.list), s.width, api.ErrMalformed)
			}
		}
	}
	isNoDecode(t, bits.Of(""), 1, 1, api.ErrMalformed)
	isNoDecode(t, bits.Of(""), 65535, 33, api.ErrMalformed)
}

// residual is the bits of a Rice with one coded partition of these numbers.
func residual(t *testing.T, block, order int, l ...int) string {
	t.Helper()
	d, ok := riceText(api.Rice{Method: 1, Params: []int{30}, Escapes: []int{-1}}, block, order, l)
	if !ok {
		t.Fatalf("%v has no code", l)
	}
	return d
}

// Samples that come out at the edge of their bits, and one past it; at the end, and on the way back to what fits.
func TestSamplesPastTheirWidth(t *testing.T) {
	wide := api.Rice{Method: 1, Params: []int{30}, Escapes: []int{-1}}
	for width := 1; width <= 33; width++ {
		for _, wasted := range []int{0, 1, width / 2, width - 1} {
			if wasted >= width {
				continue
			}
			v := width - wasted
			half, step := power(v-1), power(wasted)
			zero := wasting(fixed(0, wide), wasted)
			last := wasting(fixed(1, wide), wasted)
			same := wasting(lpc(2, 0, wide, 1), wasted)
			isDecode(t, headDigits(zero)+residual(t, 2, 0, -half, half-1), sample{zero, width, []int{-half * step, (half - 1) * step}})
			isDecode(t, headDigits(last)+digits(-1, v)+residual(t, 3, 1, 1-half, 2*half-1), sample{last, width, []int{-step, -half * step, (half - 1) * step}})
			lead := headDigits(same) + digits(-1, v) + "0001" + "00000" + "01"
			isDecode(t, lead+residual(t, 3, 1, 1-half, 2*half-1), sample{same, width, []int{-step, -half * step, (half - 1) * step}})
			for _, wrong := range []int{half, -half - 1, 1 << 40, -1 << 40} {
				isMalformed(t, headDigits(zero)+residual(t, 3, 0, 0, 0, wrong), 3, width)
				isMalformed(t, headDigits(zero)+residual(t, 3, 0, wrong, 0, 0), 3, width)
				isMalformed(t, headDigits(last)+digits(-1, v)+residual(t, 3, 1, 1, wrong), 3, width)
				isMalformed(t, headDigits(last)+digits(-1, v)+residual(t, 3, 1, 1+wrong, -wrong), 3, width)
				isMalformed(t, lead+residual(t, 3, 1, 1, wrong), 3, width)
				isMalformed(t, lead+residual(t, 3, 1, 1+wrong, -wrong), 3, width)
			}
		}
	}
}

// A sample past its bits makes those behind it grow past an int, and go round; no such row is told.
func TestSamplesThatGrowWithoutEnd(t *testing.T) {
	top := api.Sub{Kind: api.SubLpc, Order: 2, Precision: 15, Coefs: []int{16383, 16383}}
	d := headDigits(top) + digits(1, 33) + digits(1, 33) + "1110" + "00000" + each(top.Coefs, 15) + none
	isMalformed(t, d, 3000, 33)
	isMalformed(t, d, 5, 33)
	four := headDigits(fixed(4, coded(0))) + "01" + "10" + "01" + "10" + none
	isMalformed(t, four, 60000, 2)
}

// isDecodeAsModel fails, unless Decode of the text, so many bits passed, answers what the model does.
func isDecodeAsModel(t *testing.T, s string, from, block, width int) {
	t.Helper()
	d := digitsOf(s)
	l, p, at, e := decodeModel(d, from, block, width)
	x := readerAt(d, from)
	m, q, f := subframe.Decode(x, block, width)
	if e != f || !slices.Equal(l, m) || !sameSub(p, q) || e == api.OK && x.At() != at {
		t.Fatalf("Decode(%.40q, %d, %d): %s, %s, error %d, at %d; not %s, %s, error %d, at %d", s, block, width, short(m), short(q), f, x.At(), short(l), short(p), e, at)
	}
}

func TestMadeUpDecode(t *testing.T) {
	r := numbers(1033)
	for range 30000 {
		s := make([]byte, r.below(60))
		for i := range s {
			s[i] = byte(r.next()) & byte(r.next()>>(8*r.below(2)))
		}
		if len(s) > 0 {
			s[0] = []byte{0, 2, byte(16 + r.below(12)), byte(64 + r.below(64)), byte(r.next())}[r.below(5)]
		}
		isDecodeAsModel(t, string(s), 0, 1+r.below(4)<<r.below(6), 1+r.below(33))
		isDecodeAsModel(t, string(s), r.below(8*len(s)+1), 1+r.below(12), 1+r.below(33))
	}
}

// Of what was written one bit is turned; it is read as what it is then.
func TestTurnedBits(t *testing.T) {
	r := numbers(1034)
	for range 1000 {
		s := r.sample()
		d, _ := encodeModel(s.sub, s.width, s.list)
		text := []byte(packed(d))
		for range 20 {
			at := r.below(len(d))
			if r.below(2) == 0 {
				at = r.below(min(len(d), 24))
			}
			text[at/8] ^= 128 >> (at % 8)
			isDecodeAsModel(t, string(text), 0, len(s.list), s.width)
			text[at/8] ^= 128 >> (at % 8)
		}
	}
}
