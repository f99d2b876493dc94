package bits_test

import (
	"math"
	"strconv"
	"strings"
	"testing"

	"lacquer/api"
	"lacquer/bits"
)

// Promise 1.1.

func TestNewWriterIsEmpty(t *testing.T) {
	w := bits.New()
	if w == nil {
		t.Fatal("nil")
	}
	hold(t, w, "")
	w.Align()
	hold(t, w, "")
}

func TestExamplesOfWriter(t *testing.T) {
	w := bits.New()
	same(t, "Put(5, 3)", w.Put(5, 3), api.OK)
	same(t, "Put(1, 2)", w.Put(1, 2), api.OK)
	hold(t, w, "10101")
	w.Align()
	hold(t, w, "10101000")
	if w.Bytes() != "\xa8" {
		t.Fatalf("%q", w.Bytes())
	}
	w = bits.New()
	same(t, "Rice(-1, 0)", w.Rice(-1, 0), api.OK)
	hold(t, w, "01")
	same(t, "Rice(3, 2)", w.Rice(3, 2), api.OK)
	hold(t, w, "01"+"0110")
	same(t, "Signed(-1, 4)", w.Signed(-1, 4), api.OK)
	hold(t, w, "01"+"0110"+"1111")
}

func TestPutHighestFirst(t *testing.T) {
	w, want := bits.New(), ""
	for width := 0; width <= 64; width++ {
		for _, n := range []uint64{0, 1, 0x5555555555555555, 0x9249249249249249, math.MaxUint64} {
			n = n << (64 - width) >> (64 - width)
			same(t, "Put in "+strconv.Itoa(width), w.Put(n, width), api.OK)
			want += digits(n, width)
		}
	}
	hold(t, w, want)
}

func TestPutEdges(t *testing.T) {
	for _, c := range []struct {
		n     uint64
		width int
		errno api.Errno
	}{
		{0, -1, api.ErrWidth},
		{0, math.MinInt, api.ErrWidth},
		{0, 0, api.OK},
		{1, 0, api.ErrWidth},
		{math.MaxUint64, 0, api.ErrWidth},
		{0, 1, api.OK},
		{1, 1, api.OK},
		{2, 1, api.ErrWidth},
		{7, 3, api.OK},
		{8, 3, api.ErrWidth},
		{1<<63 - 1, 63, api.OK},
		{1 << 63, 63, api.ErrWidth},
		{1 << 63, 64, api.OK},
		{math.MaxUint64, 64, api.OK},
		{0, 65, api.ErrWidth},
		{0, math.MaxInt, api.ErrWidth},
	} {
		w := bits.New()
		w.Put(5, 3)
		want := "101"
		if c.errno == api.OK {
			want += digits(c.n, c.width)
		}
		same(t, "Put("+strconv.FormatUint(c.n, 10)+", "+strconv.Itoa(c.width)+")", w.Put(c.n, c.width), c.errno)
		hold(t, w, want)
	}
}

func TestSignedEdges(t *testing.T) {
	for width := 1; width <= 64; width++ {
		least, greatest := math.MinInt>>(64-width), math.MaxInt>>(64-width)
		w := bits.New()
		w.Put(1, 1)
		want := "1"
		for _, n := range []int{least, -1, 0, greatest} {
			same(t, "Signed", w.Signed(n, width), api.OK)
			want += digits(uint64(n), width)
		}
		hold(t, w, want)
		if width < 64 {
			for _, n := range []int{least - 1, greatest + 1, math.MinInt, math.MaxInt} {
				same(t, "Signed past "+strconv.Itoa(width), w.Signed(n, width), api.ErrWidth)
			}
			hold(t, w, want)
		}
	}
}

func TestSignedWrongWidth(t *testing.T) {
	w := bits.New()
	w.Put(1, 1)
	for _, width := range []int{math.MinInt, -1, 0, 65, math.MaxInt} {
		for _, n := range []int{-1, 0, 1} {
			same(t, "Signed in "+strconv.Itoa(width), w.Signed(n, width), api.ErrWidth)
			hold(t, w, "1")
		}
	}
}

func TestUnaryWritten(t *testing.T) {
	w, want := bits.New(), ""
	for n := range 40 {
		same(t, "Unary", w.Unary(n), api.OK)
		want += strings.Repeat("0", n) + "1"
		hold(t, w, want)
	}
}

func TestUnaryEdges(t *testing.T) {
	for _, ahead := range []string{"", "101", "1010101"} {
		w, want := bits.New(), ahead
		for i := range len(ahead) {
			w.Put(uint64(ahead[i]-'0'), 1)
		}
		for _, n := range []int{math.MinInt, -1, most + 1, math.MaxInt} {
			same(t, "Unary("+strconv.Itoa(n)+")", w.Unary(n), api.ErrWidth)
			hold(t, w, want)
		}
		same(t, "Unary(0)", w.Unary(0), api.OK)
		want += "1"
		hold(t, w, want)
		same(t, "Unary(2^24)", w.Unary(most), api.OK)
		want += strings.Repeat("0", most) + "1"
		hold(t, w, want)
	}
}

func TestRiceWritten(t *testing.T) {
	for k := 0; k <= 30; k++ {
		w, want := bits.New(), ""
		for _, n := range []int{0, -1, 1, -2, 2, 3, 100, -100, 1<<k - 1, -1 << k, 5 << k, -7<<k + 1} {
			same(t, "Rice", w.Rice(n, k), api.OK)
			d, _ := riceDigits(n, k)
			want += d
		}
		hold(t, w, want)
	}
}

func TestRiceWrongParameter(t *testing.T) {
	w := bits.New()
	w.Put(1, 1)
	for _, k := range []int{math.MinInt, -1, 31, 63, 64, math.MaxInt} {
		for _, n := range []int{math.MinInt, -1, 0, 1, math.MaxInt} {
			same(t, "Rice with "+strconv.Itoa(k), w.Rice(n, k), api.ErrWidth)
			hold(t, w, "1")
		}
	}
}

// With k the quotient is 2^24 from u = 2^(24 + k) on, and too great from u = 2^(24 + k) + 2^k on.
func TestRiceEdges(t *testing.T) {
	for _, k := range []int{0, 1, 13, 29, 30} {
		past := 1<<(24+k) + 1<<k
		for u := past - 2; u < past+2; u++ {
			n := u / 2
			if u%2 == 1 {
				n = -u/2 - 1
			}
			d, may := riceDigits(n, k)
			if may != (u < past) {
				t.Fatalf("the test is wrong at k %d, u %d", k, u)
			}
			w := bits.New()
			w.Put(1, 1)
			if may {
				same(t, "Rice", w.Rice(n, k), api.OK)
			} else {
				same(t, "Rice", w.Rice(n, k), api.ErrWidth)
			}
			hold(t, w, "1"+d)
		}
	}
}

// The smallest int has u = 2^64 - 1, which wraps round nowhere.
func TestRiceSmallestAndGreatest(t *testing.T) {
	w := bits.New()
	w.Put(1, 1)
	for k := 0; k <= 30; k++ {
		for _, n := range []int{math.MinInt, math.MinInt + 1, math.MaxInt - 1, math.MaxInt} {
			same(t, "Rice", w.Rice(n, k), api.ErrWidth)
		}
	}
	hold(t, w, "1")
}

func TestAlignWritten(t *testing.T) {
	for n := 0; n <= 24; n++ {
		w := bits.New()
		for range n {
			w.Put(1, 1)
		}
		w.Align()
		want := strings.Repeat("1", n) + strings.Repeat("0", (8-n%8)%8)
		hold(t, w, want)
		w.Align()
		hold(t, w, want)
		w.Put(1, 1)
		hold(t, w, want+"1")
	}
}

func TestAlignBehindUnary(t *testing.T) {
	for n := range 24 {
		w := bits.New()
		w.Unary(n)
		w.Align()
		w.Put(3, 2)
		hold(t, w, strings.Repeat("0", n)+"1"+strings.Repeat("0", (8-(n+1)%8)%8)+"11")
	}
}

func TestBytesWritesNothing(t *testing.T) {
	w := bits.New()
	w.Put(1, 1)
	first := w.Bytes()
	w.Put(1, 1)
	hold(t, w, "11")
	if first != "\x80" {
		t.Fatalf("an answer changed: %q", first)
	}
}

func TestWritersShareNothing(t *testing.T) {
	a, b := bits.New(), bits.New()
	a.Put(0xff, 8)
	b.Put(1, 2)
	a.Put(0, 1)
	hold(t, a, "111111110")
	hold(t, b, "01")
}

func TestNilWriter(t *testing.T) {
	var w *bits.Writer
	for _, n := range []int{math.MinInt, -1, 0, 1, 31, 64, 65, math.MaxInt} {
		same(t, "Put", w.Put(0, n), api.ErrArg)
		same(t, "Signed", w.Signed(0, n), api.ErrArg)
		same(t, "Unary", w.Unary(n), api.ErrArg)
		same(t, "Rice", w.Rice(0, n), api.ErrArg)
	}
	w.Align()
	if w.Len() != 0 || w.Bytes() != "" {
		t.Fatalf("%d %q", w.Len(), w.Bytes())
	}
}
