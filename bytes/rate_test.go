package bytes_test

import (
	"fmt"
	"math"
	"testing"

	"lacquer/api"
	"lacquer/bytes"
)

// Promise 2.3.

// fromRate fails, unless FromRate of s answers the wanted things.
func fromRate(t *testing.T, s string, n int, errno api.Errno) {
	t.Helper()
	if got, e := bytes.FromRate(s); got != n || e != errno {
		t.Fatalf("FromRate(% x): %d %d, not %d %d", s, got, e, n, errno)
	}
}

func TestExamplesOfRate(t *testing.T) {
	for _, c := range []struct {
		n int
		s string
	}{
		{1, "\x3f\xff\x80\x00\x00\x00\x00\x00\x00\x00"},
		{2, "\x40\x00\x80\x00\x00\x00\x00\x00\x00\x00"},
		{3, "\x40\x00\xc0\x00\x00\x00\x00\x00\x00\x00"},
		{8000, "\x40\x0b\xfa\x00\x00\x00\x00\x00\x00\x00"},
		{44100, "\x40\x0e\xac\x44\x00\x00\x00\x00\x00\x00"},
		{65535, "\x40\x0e\xff\xff\x00\x00\x00\x00\x00\x00"},
		{65536, "\x40\x0f\x80\x00\x00\x00\x00\x00\x00\x00"},
		{655350, "\x40\x12\x9f\xff\x60\x00\x00\x00\x00\x00"},
	} {
		s, e := bytes.Rate(c.n)
		text(t, fmt.Sprintf("Rate(%d)", c.n), s, e, c.s, api.OK)
		fromRate(t, c.s, c.n, api.OK)
	}
}

func TestRatePastItsEnds(t *testing.T) {
	for _, n := range []int{math.MinInt, -44100, -1, 0, 655351, 1 << 20, 1 << 62, math.MaxInt} {
		s, e := bytes.Rate(n)
		text(t, fmt.Sprintf("Rate(%d)", n), s, e, "", api.ErrWidth)
	}
}

func TestRateOfEveryNumber(t *testing.T) {
	for n := 1; n <= 655350; n++ {
		s, e := bytes.Rate(n)
		text(t, fmt.Sprintf("Rate(%d)", n), s, e, rateModel(n), api.OK)
		fromRate(t, s, n, api.OK)
	}
}

func TestFromRateOfOtherLengths(t *testing.T) {
	whole := rateModel(44100)
	for i := range len(whole) {
		fromRate(t, whole[:i], 0, api.ErrMalformed)
	}
	fromRate(t, whole+"\x00", 0, api.ErrMalformed)
	fromRate(t, "\x00"+whole, 0, api.ErrMalformed)
	fromRate(t, whole+whole, 0, api.ErrMalformed)
	fromRate(t, "\xff\xff\xff", 0, api.ErrMalformed)
}

func TestFromRateOfNoRate(t *testing.T) {
	for _, s := range []string{
		"\x00\x00\x00\x00\x00\x00\x00\x00\x00\x00", // 0
		"\x3f\xff\x00\x00\x00\x00\x00\x00\x00\x00", // 0 with 1's exponent
		"\x3f\xfe\x80\x00\x00\x00\x00\x00\x00\x00", // a half
		"\x3f\xff\xc0\x00\x00\x00\x00\x00\x00\x00", // one and a half
		"\x3f\xff\x80\x00\x00\x00\x00\x00\x00\x01", // a little above 1
		"\x40\x0f\x56\x22\x00\x00\x00\x00\x00\x00", // 44100 not drawn up
		"\xc0\x0e\xac\x44\x00\x00\x00\x00\x00\x00", // -44100
		"\x40\x0e\xac\x44\x80\x00\x00\x00\x00\x00", // 44100 and a half
		"\x40\x12\x9f\xff\x70\x00\x00\x00\x00\x00", // 655351
		"\x40\x13\x80\x00\x00\x00\x00\x00\x00\x00", // 2^20
		"\x40\x3e\x80\x00\x00\x00\x00\x00\x00\x00", // 2^63
		"\x40\x3e\xff\xff\xff\xff\xff\xff\xff\xff", // 2^64 - 1
		"\x40\x3e\x00\x00\x00\x00\x00\x00\xac\x44", // 44100 not drawn up at all
		"\x40\x3f\x80\x00\x00\x00\x00\x00\x00\x00", // 2^64
		"\x7f\xff\x80\x00\x00\x00\x00\x00\x00\x00", // without an end
		"\xff\xff\xff\xff\xff\xff\xff\xff\xff\xff",
	} {
		fromRate(t, s, 0, api.ErrUnsupported)
	}
}

func TestFromRateOfEverySpoiltBit(t *testing.T) {
	for _, n := range []int{1, 8000, 11025, 44100, 48000, 96000, 655350} {
		whole := rateModel(n)
		for bit := range 80 {
			s := []byte(whole)
			s[bit/8] ^= 1 << (bit % 8)
			m, e := bytes.FromRate(string(s))
			switch {
			case e == api.ErrUnsupported && m == 0:
			case e == api.OK && m != n && m >= 1 && m <= 655350 && rateModel(m) == string(s):
			default:
				t.Fatalf("%d with bit %d spoilt: %d %d", n, bit, m, e)
			}
		}
	}
}

func TestFromRateOfManyTexts(t *testing.T) {
	r := numbers(25)
	for range 100000 {
		head, _ := bytes.Be(16383-1+r.below(70), 2)
		tail, _ := bytes.Be(r.below(1<<24)<<r.below(40), 8)
		s := head + tail
		n, e := bytes.FromRate(s)
		if may := e == api.OK; may && rateModel(n) != s || !may && (n != 0 || e != api.ErrUnsupported) {
			t.Fatalf("FromRate(% x): %d %d", s, n, e)
		}
	}
}
