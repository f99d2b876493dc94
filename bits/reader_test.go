package bits_test

import (
	"math"
	"strconv"
	"strings"
	"testing"

	"lacquer/api"
	"lacquer/bits"
)

// Promise 1.2.

func TestReaderOfNothing(t *testing.T) {
	r := bits.Of("")
	if r == nil {
		t.Fatal("nil")
	}
	stand(t, r, 0, 0)
	n, e := r.Get(0)
	if n != 0 || e != api.OK {
		t.Fatalf("Get(0): %d %d", n, e)
	}
	get(t, r, 1, 0, api.ErrEnd)
	signed(t, r, 1, 0, api.ErrEnd)
	unary(t, r, 0, api.ErrEnd)
	rice(t, r, 0, 0, api.ErrEnd)
	align(t, r, true)
	stand(t, r, 0, 0)
}

func TestExamplesOfReader(t *testing.T) {
	get(t, bits.Of("\xa8"), 3, 5, api.OK)
	unary(t, bits.Of("\x00"), 0, api.ErrEnd)
	signed(t, bits.Of("\xf0"), 4, -1, api.OK)
	rice(t, bits.Of(packed("01")), 0, -1, api.OK)
	rice(t, bits.Of(packed("0110")), 2, 3, api.OK)
}

func TestGetFromEveryPlace(t *testing.T) {
	text := "\x01\x9c\x7f\x80\xfe\x35\xaa\x55\xc3\xff\x00\x96"
	d := digitsOf(text)
	for at := 0; at <= len(d); at++ {
		for width := 0; width <= 64; width++ {
			r := bits.Of(text)
			skip(t, r, at)
			if at+width > len(d) {
				get(t, r, width, 0, api.ErrEnd)
				stand(t, r, at, len(d)-at)
				continue
			}
			var want uint64
			if width > 0 {
				want, _ = strconv.ParseUint(d[at:at+width], 2, 64)
			}
			get(t, r, width, want, api.OK)
			stand(t, r, at+width, len(d)-at-width)
		}
	}
}

func TestSignedFromEveryPlace(t *testing.T) {
	text := "\x01\x9c\x7f\x80\xfe\x35\xaa\x55\xc3\xff\x00\x96"
	d := digitsOf(text)
	for at := 0; at <= len(d); at++ {
		for width := 1; width <= 64; width++ {
			r := bits.Of(text)
			skip(t, r, at)
			if at+width > len(d) {
				signed(t, r, width, 0, api.ErrEnd)
				stand(t, r, at, len(d)-at)
				continue
			}
			u, _ := strconv.ParseUint(d[at:at+width], 2, 64)
			want := int(u)
			if d[at] == '1' && width < 64 {
				want -= 1 << width
			}
			signed(t, r, width, want, api.OK)
			stand(t, r, at+width, len(d)-at-width)
		}
	}
}

func TestWrongWidthsRead(t *testing.T) {
	// A wrong width is told ahead of the end.
	for _, text := range []string{"", "\xff", strings.Repeat("\xff", 40)} {
		for at := 0; at <= 8*len(text); at += 5 {
			r := bits.Of(text)
			skip(t, r, at)
			for _, width := range []int{math.MinInt, -1, 65, math.MaxInt} {
				get(t, r, width, 0, api.ErrWidth)
				signed(t, r, width, 0, api.ErrWidth)
			}
			signed(t, r, 0, 0, api.ErrWidth)
			for _, k := range []int{math.MinInt, -1, 31, 63, 64, math.MaxInt} {
				rice(t, r, k, 0, api.ErrWidth)
			}
			stand(t, r, at, 8*len(text)-at)
		}
	}
}

func TestUnaryFromEveryPlace(t *testing.T) {
	for ahead := range 18 {
		for n := range 30 {
			d := strings.Repeat("1", ahead) + strings.Repeat("0", n) + "1"
			end := (len(d) + 7) / 8 * 8
			r := bits.Of(packed(d))
			skip(t, r, ahead)
			unary(t, r, n, api.OK)
			stand(t, r, len(d), end-len(d))
			unary(t, r, 0, api.ErrEnd)
			stand(t, r, len(d), end-len(d))
		}
	}
}

func TestUnaryManyZeros(t *testing.T) {
	for _, ahead := range []int{0, 1, 7, 8, 11} {
		for _, n := range []int{most - 1, most, most + 1, most + 2, most + 9} {
			d := strings.Repeat("1", ahead) + strings.Repeat("0", n) + "1"
			r := bits.Of(packed(d))
			left := r.Left()
			skip(t, r, ahead)
			if n <= most {
				unary(t, r, n, api.OK)
				stand(t, r, len(d), left-len(d))
				continue
			}
			unary(t, r, 0, api.ErrWidth)
			rice(t, r, 3, 0, api.ErrWidth)
			stand(t, r, ahead, left-ahead)
		}
	}
}

// Without a bit 1: ErrEnd, as long as the end is seen within 2^24 bits 0, else ErrWidth.
func TestUnaryManyZerosAndNoOne(t *testing.T) {
	text := strings.Repeat("\x00", most/8+1)
	for _, zeros := range []int{most - 1, most, most + 1, most + 8} {
		r := bits.Of(text)
		at := r.Left() - zeros
		skip(t, r, at)
		want := api.ErrEnd
		if zeros > most {
			want = api.ErrWidth
		}
		unary(t, r, 0, want)
		rice(t, r, 0, 0, want)
		rice(t, r, 30, 0, want)
		stand(t, r, at, zeros)
	}
}

func TestRiceRead(t *testing.T) {
	for k := 0; k <= 30; k++ {
		for _, n := range []int{0, -1, 1, -2, 2, 77, -78, 1<<k - 1, -1 << k, 9 << k, -9<<k + 1} {
			d, _ := riceDigits(n, k)
			r := bits.Of(packed("101" + d))
			left := r.Left()
			skip(t, r, 3)
			rice(t, r, k, n, api.OK)
			stand(t, r, 3+len(d), left-3-len(d))
		}
	}
}

// The greatest codes that can be read: 2^24 bits 0, and all k lowest bits 0 or 1.
func TestRiceGreatestRead(t *testing.T) {
	for _, k := range []int{0, 1, 30} {
		high := strings.Repeat("0", most) + "1"
		rice(t, bits.Of(packed(high+strings.Repeat("0", k))), k, 1<<(24+k)/2, api.OK)
		if k > 0 {
			rice(t, bits.Of(packed(high+strings.Repeat("1", k))), k, -(1<<(24+k)+1<<k)/2, api.OK)
		}
	}
}

// The unary part is there, and of the lowest bits all or all but one.
func TestRiceEnd(t *testing.T) {
	for k := 1; k <= 30; k++ {
		for ahead := range 9 {
			zeros := (8*8 - ahead - 1 - k)
			text := packed(strings.Repeat("1", ahead) + strings.Repeat("0", zeros) + "1" + strings.Repeat("1", k))
			r := bits.Of(text)
			skip(t, r, ahead)
			if k < 30 {
				rice(t, r, k+1, 0, api.ErrEnd)
				stand(t, r, ahead, 64-ahead)
			}
			rice(t, r, k, -(zeros+1)<<(k-1), api.OK)
			stand(t, r, 64, 0)
		}
	}
}

func TestAlignRead(t *testing.T) {
	for at := 0; at <= 16; at++ {
		up := (at + 7) / 8 * 8
		for one := 0; one < 16; one++ {
			d := strings.Repeat("0", one) + "1" + strings.Repeat("0", 15-one)
			r := bits.Of(packed(d))
			skip(t, r, at)
			align(t, r, one < at || one >= up)
			stand(t, r, up, 16-up)
			align(t, r, true)
			stand(t, r, up, 16-up)
		}
	}
}

func TestEmptyGetAtTheEnd(t *testing.T) {
	r := bits.Of("xy")
	get(t, r, 16, 'x'<<8|'y', api.OK)
	get(t, r, 0, 0, api.OK)
	get(t, r, 1, 0, api.ErrEnd)
	signed(t, r, 1, 0, api.ErrEnd)
	unary(t, r, 0, api.ErrEnd)
	rice(t, r, 0, 0, api.ErrEnd)
	align(t, r, true)
	stand(t, r, 16, 0)
}

func TestReadersShareNothing(t *testing.T) {
	a, b := bits.Of("\xa8"), bits.Of("\xa8")
	get(t, a, 3, 5, api.OK)
	stand(t, b, 0, 8)
	get(t, b, 8, 0xa8, api.OK)
	stand(t, a, 3, 5)
}

func TestNilReader(t *testing.T) {
	var r *bits.Reader
	for _, n := range []int{math.MinInt, -1, 0, 1, 31, 64, 65, math.MaxInt} {
		get(t, r, n, 0, api.ErrArg)
		signed(t, r, n, 0, api.ErrArg)
		rice(t, r, n, 0, api.ErrArg)
	}
	unary(t, r, 0, api.ErrArg)
	if zero, e := r.Align(); zero || e != api.ErrArg {
		t.Fatalf("Align: %v %d", zero, e)
	}
	stand(t, r, 0, 0)
}

// skip passes over so many bits.
func skip(t *testing.T, r *bits.Reader, width int) {
	t.Helper()
	left := r.Left() - width
	for r.Left() > left {
		_, e := r.Get(min(64, r.Left()-left))
		same(t, "Get", e, api.OK)
	}
}

func get(t *testing.T, r *bits.Reader, width int, want uint64, errno api.Errno) {
	t.Helper()
	if n, e := r.Get(width); n != want || e != errno {
		t.Fatalf("Get(%d): %d, error %d; not %d, error %d", width, n, e, want, errno)
	}
}

func signed(t *testing.T, r *bits.Reader, width, want int, errno api.Errno) {
	t.Helper()
	if n, e := r.Signed(width); n != want || e != errno {
		t.Fatalf("Signed(%d): %d, error %d; not %d, error %d", width, n, e, want, errno)
	}
}

func unary(t *testing.T, r *bits.Reader, want int, errno api.Errno) {
	t.Helper()
	if n, e := r.Unary(); n != want || e != errno {
		t.Fatalf("Unary: %d, error %d; not %d, error %d", n, e, want, errno)
	}
}

func rice(t *testing.T, r *bits.Reader, k, want int, errno api.Errno) {
	t.Helper()
	if n, e := r.Rice(k); n != want || e != errno {
		t.Fatalf("Rice(%d): %d, error %d; not %d, error %d", k, n, e, want, errno)
	}
}

func align(t *testing.T, r *bits.Reader, want bool) {
	t.Helper()
	if zero, e := r.Align(); zero != want || e != api.OK {
		t.Fatalf("Align: %v, error %d; not %v", zero, e, want)
	}
}
