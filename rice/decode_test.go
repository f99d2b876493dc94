package rice_test

import (
	"math"
	"slices"
	"strings"
	"testing"

	"lacquer/api"
	"lacquer/bits"
	"lacquer/rice"
)

// Promise 8.2.

func TestExamplesOfDecode(t *testing.T) {
	isDecode(t, "00"+"0000"+"0000"+"1"+"01"+"001"+"00001", sample{coded(0, 0, 0), 4, 0, []int{0, -1, 1, 2}})
	isDecode(t, "00"+"0000"+"1111"+"00000", sample{escaped(0, 0, 0), 3, 0, []int{0, 0, 0}})
	isNoDecode(t, bits.Of(packed("00"+"0010"+strings.Repeat("0", 100)+"1")), 6, 0, api.ErrMalformed)
}

func TestDecodeByHand(t *testing.T) {
	isDecode(t, "00"+"0001"+"0001"+"0011"+"0011"+"001"+"010"+"001"+"001", sample{coded(0, 1, 1, 3), 4, 1, []int{-3, 9, -9}})
	isDecode(t, "01"+"0000"+"11110"+"1"+strings.Repeat("1", 30), sample{coded(1, 0, 30), 1, 0, []int{-1 << 29}})
	isDecode(t, "01"+"0000"+"01111"+"1"+strings.Repeat("0", 15), sample{coded(1, 0, 15), 1, 0, []int{0}})
	isDecode(t, "00"+"0000"+"1110"+"1"+strings.Repeat("0", 14), sample{coded(0, 0, 14), 1, 0, []int{0}})
	isDecode(t, "01"+"0000"+"11111"+"00100"+"1000"+"0111"+"1111", sample{escaped(1, 0, 4), 3, 0, []int{-8, 7, -1}})
	isDecode(t, "00"+"0000"+"1111"+"00001"+"0110", sample{escaped(0, 0, 1), 4, 0, []int{0, -1, -1, 0}})
	isDecode(t, "00"+"0000"+"1111"+"11111"+"1"+strings.Repeat("0", 30), sample{escaped(0, 0, 31), 1, 0, []int{-1 << 30}})
	mixed := api.Rice{Order: 1, Params: []int{0, 2}, Escapes: []int{3, -1}}
	isDecode(t, "00"+"0001"+"1111"+"00011"+"100"+"011"+"0010"+"100"+"0100", sample{mixed, 4, 0, []int{-4, 3, 0, 2}})
	// A first partition of no numbers has its head all the same.
	isDecode(t, "00"+"0001"+"1001"+"0000"+"1"+"01", sample{coded(0, 1, 9, 0), 4, 2, []int{0, -1}})
	isDecode(t, "00"+"0001"+"1111"+"01000"+"0000"+"1"+"01", sample{api.Rice{Order: 1, Params: []int{0, 0}, Escapes: []int{8, -1}}, 4, 2, []int{0, -1}})
	isDecode(t, "00"+"0000"+"0101", sample{coded(0, 0, 5), 32, 32, nil})
}

// Arguments that may not be are told ahead of the bits, right or wrong.
func TestArgumentsOfDecode(t *testing.T) {
	good := packed("00" + "0000" + "1111" + "00000")
	for _, s := range []string{good, "", "\x80"} {
		for _, block := range []int{math.MinInt, -65535, -1, 0, 65536, 65537, math.MaxInt} {
			isNoDecode(t, bits.Of(s), block, 0, api.ErrArg)
			isNoDecode(t, bits.Of(s), block, 1, api.ErrArg)
			isNoDecode(t, bits.Of(s), block, block, api.ErrArg)
			isNoDecode(t, nil, block, 0, api.ErrArg)
		}
		for _, order := range []int{math.MinInt, -1, 33, 34, math.MaxInt} {
			isNoDecode(t, bits.Of(s), 4096, order, api.ErrArg)
			isNoDecode(t, bits.Of(s), 33, order, api.ErrArg)
			isNoDecode(t, nil, 4096, order, api.ErrArg)
		}
		for block := 1; block <= 31; block++ {
			isNoDecode(t, bits.Of(s), block, block+1, api.ErrArg)
			isNoDecode(t, bits.Of(s), block, 32, api.ErrArg)
		}
	}
	isNoDecode(t, nil, 1, 0, api.ErrArg)
	isNoDecode(t, nil, 0, -1, api.ErrArg)
	for _, block := range []int{1, 2, 31, 32, 33, 65534, 65535} {
		for _, order := range []int{0, 1, min(block, 31), min(block, 32)} {
			isDecode(t, "00"+"0000"+"1111"+"00000", sample{escaped(0, 0, 0), block, order, make([]int, block-order)})
			isNoDecode(t, bits.Of("\x80"), block, order, api.ErrMalformed)
		}
	}
}

func TestMethodsOfDecode(t *testing.T) {
	for _, method := range []string{"10", "11"} {
		for _, tail := range []string{"", "000000", "0000" + "1111" + "00000", "0000" + "11111" + "00000", strings.Repeat("1", 100)} {
			isNoDecode(t, bits.Of(packed(method+tail)), 4, 0, api.ErrMalformed)
			isNoDecode(t, bits.Of(packed(method+tail)), 4, 4, api.ErrMalformed)
			isNoDecode(t, bits.Of(packed(method+tail)), 5, 0, api.ErrMalformed)
		}
	}
}

// Each Order with blocks that it divides and that it does not, and with a predictor's order as great as a partition, and one more.
func TestOrdersOfDecode(t *testing.T) {
	for power := range 16 {
		parts := 1 << power
		escapes := strings.Repeat("1111"+"00000", parts)
		head := "00" + digits(power, 4)
		for _, size := range []int{1, 2, 31, 32, 33} {
			block := size * parts
			if block > 65535 {
				continue
			}
			top := min(size, 32)
			for _, order := range []int{0, 1, top} {
				isDecode(t, head+escapes, sample{escaped(0, power, make([]int, parts)...), block, order, make([]int, block-order)})
			}
			if size < 32 && power > 0 {
				isNoDecode(t, bits.Of(packed(head+escapes)), block, size+1, api.ErrMalformed)
			}
			if power > 0 && block < 65535 {
				isNoDecode(t, bits.Of(packed(head+escapes)), block+1, 0, api.ErrMalformed)
				isNoDecode(t, bits.Of(packed(head+escapes)), block-1, 0, api.ErrMalformed)
				isNoDecode(t, bits.Of(packed(head+escapes)), block+parts/2, 0, api.ErrMalformed)
			}
		}
	}
}

// Bits that end at every place of what was written.
func TestBitsThatEnd(t *testing.T) {
	r := numbers(811)
	for range 200 {
		s := r.sample()
		d, _ := encodeModel(s.rice, s.block, s.order, s.list)
		isDecode(t, d, s)
		if len(d) > 3000 {
			continue
		}
		for cut := range len(d) {
			// A reader ends at a whole byte: what is left stands at its end, behind as many bits as were read ahead.
			ahead := strings.Repeat("1", -cut&7)
			x := bits.Of(packed(ahead + d[:cut]))
			x.Get(len(ahead))
			isNoDecode(t, x, s.block, s.order, api.ErrMalformed)
		}
	}
	isNoDecode(t, bits.Of(""), 1, 0, api.ErrMalformed)
	isNoDecode(t, bits.Of(""), 1, 1, api.ErrMalformed)
}

// More bits 0 than a Rice code may have, with a bit 1 behind them and without.
func TestNoRiceCode(t *testing.T) {
	for k := range 3 {
		head := "01" + "0000" + digits(k, 5)
		far := head + strings.Repeat("0", most) + "1" + strings.Repeat("1", k)
		u := most<<k + 1<<k - 1
		n := u / 2
		if u%2 == 1 {
			n = -(u + 1) / 2
		}
		x := bits.Of(packed(far))
		l, r, e := rice.Decode(x, 1, 0)
		if e != api.OK || !slices.Equal(l, []int{n}) || !sameRice(r, coded(1, 0, k)) || x.At() != len(far) {
			t.Errorf("%d: %v, error %d", k, l, e)
		}
		isNoDecode(t, bits.Of(packed(head+strings.Repeat("0", most+1)+"1"+strings.Repeat("1", k+8))), 1, 0, api.ErrMalformed)
		isNoDecode(t, bits.Of(packed(head+strings.Repeat("0", most+100))), 1, 0, api.ErrMalformed)
		isNoDecode(t, bits.Of(packed(head+strings.Repeat("0", most-100))), 1, 0, api.ErrMalformed)
		isNoDecode(t, bits.Of(packed(head+"1"+strings.Repeat("1", k)+strings.Repeat("0", most+100)+"1")), 2, 0, api.ErrMalformed)
	}
}

// isDecodeAsModel fails, unless Decode of the text answers what the model does.
func isDecodeAsModel(t *testing.T, s string, block, order int) {
	t.Helper()
	l, r, at, e := decodeModel(digitsOf(s), block, order)
	x := bits.Of(s)
	m, q, f := rice.Decode(x, block, order)
	if e != f || !slices.Equal(l, m) || !sameRice(r, q) || e == api.OK && x.At() != at {
		t.Fatalf("Decode(%.40q, %d, %d): %s, %s, error %d, at %d; not %s, %s, error %d, at %d", s, block, order, short(m), short(q), f, x.At(), short(l), short(r), e, at)
	}
}

func TestMadeUpDecode(t *testing.T) {
	r := numbers(812)
	for range 20000 {
		s := make([]byte, r.below(40))
		for i := range s {
			s[i] = byte(r.next())
		}
		if len(s) > 0 {
			s[0] &= []byte{0x43, 0x47, 0x4f, 0xff}[r.below(4)]
		}
		block := 1 + r.below(4)<<r.below(6)
		isDecodeAsModel(t, string(s), block, r.below(min(block, 32)+1))
	}
}

// Of what was written one bit is turned; it is read as what it is then.
func TestTurnedBits(t *testing.T) {
	r := numbers(813)
	for range 300 {
		s := r.sample()
		d, _ := encodeModel(s.rice, s.block, s.order, s.list)
		text := []byte(packed(d))
		for range 20 {
			at := r.below(len(d))
			if r.below(2) == 0 {
				at = r.below(min(len(d), 16))
			}
			text[at/8] ^= 128 >> (at % 8)
			isDecodeAsModel(t, string(text), s.block, s.order)
			text[at/8] ^= 128 >> (at % 8)
		}
	}
}
