package ranges_test

import (
	"math"
	"strings"
	"testing"

	"lacquer/api"
	"lacquer/ranges"
)

// Promise 18.2.

// The text that Put(1, 1, 2) becomes, by hand.
func TestTakenByHand(t *testing.T) {
	d := ranges.Of("\x00\x7f\xff\xff\xff")
	if d.Used() != 5 {
		t.Fatalf("Used is %d", d.Used())
	}
	if n, e := d.Peek(2); n != 1 || e != api.OK {
		t.Fatalf("Peek(2) is %d, error %d", n, e)
	}
	if n, e := d.Bits(1); n != 1 || e != api.OK || d.Used() != 5 {
		t.Fatalf("Bits(1) is %d, error %d, Used %d", n, e, d.Used())
	}
	// Nothing of the code is left over now.
	if n, e := d.Peek(65536); n != 0 || e != api.OK {
		t.Fatalf("Peek(65536) is %d, error %d", n, e)
	}
}

// isRefused fails, unless all calls answer as they do of a text that is refused, with so much used.
func isRefused(t *testing.T, s string, d *ranges.Decoder, used int) {
	t.Helper()
	for range 2 {
		for _, n := range []int{1, 2, 3, 16, 65535, 65536} {
			if m, e := d.Peek(n); m != 0 || e != api.ErrMalformed {
				t.Fatalf("%s: Peek(%d) is %d, error %d", short(s), n, m, e)
			}
			if e := d.Take(0, n, n); e != api.ErrMalformed {
				t.Fatalf("%s: Take(0, %d, %d): error %d", short(s), n, n, e)
			}
			if e := d.Take(n-1, 1, n); e != api.ErrMalformed {
				t.Fatalf("%s: Take(%d, 1, %d): error %d", short(s), n-1, n, e)
			}
		}
		for width := 1; width <= 16; width++ {
			if m, e := d.Bits(width); m != 0 || e != api.ErrMalformed {
				t.Fatalf("%s: Bits(%d) is %d, error %d", short(s), width, m, e)
			}
		}
		isAgainstArguments(t, s, d, used)
	}
}

// isAgainstArguments fails, unless wrong arguments are refused ahead of all else, with so much used.
func isAgainstArguments(t *testing.T, s string, d *ranges.Decoder, used int) {
	t.Helper()
	for _, n := range []int{0, -1, -2, 65537, 65538, 1 << 20, 1<<32 + 1, math.MinInt, math.MaxInt} {
		if m, e := d.Peek(n); m != 0 || e != api.ErrArg {
			t.Fatalf("%s: Peek(%d) is %d, error %d", short(s), n, m, e)
		}
	}
	for _, p := range [][3]int{
		{0, 1, 0}, {0, 1, -1}, {0, 1, 65537}, {-1, 1, 2}, {-1, 2, 2}, {2, 1, 2}, {1, 2, 2}, {0, 3, 2}, {0, 0, 2}, {1, 0, 2}, {0, -5, 9}, {0, 65537, 65536}, {65536, 1, 65536},
		{1, math.MaxInt, 2}, {math.MaxInt, 1, 2}, {math.MaxInt, math.MaxInt, 65536}, {math.MinInt, math.MinInt, math.MinInt}, {5, math.MinInt, 65536}, {math.MinInt, 1, 1}, {0, 1, math.MaxInt}, {0, 1, math.MinInt},
	} {
		if e := d.Take(p[0], p[1], p[2]); e != api.ErrArg {
			t.Fatalf("%s: Take(%d, %d, %d): error %d", short(s), p[0], p[1], p[2], e)
		}
	}
	for _, width := range []int{0, -1, 17, 18, 32, 63, 64, 65, math.MinInt, math.MaxInt} {
		if m, e := d.Bits(width); m != 0 || e != api.ErrArg {
			t.Fatalf("%s: Bits(%d) is %d, error %d", short(s), width, m, e)
		}
	}
	if d.Used() != used {
		t.Fatalf("%s: Used is %d, not %d", short(s), d.Used(), used)
	}
}

func TestBeginnings(t *testing.T) {
	for _, s := range []string{"", "\x00", "\x00\x00", "\x00\x00\x00", "\x00\x00\x00\x00", "\x00\x7f\xff\xff", "x", "\xffxyz", "\x01\x00\x00\x00"} {
		isRefused(t, s, ranges.Of(s), 0)
	}
	for first := 1; first < 256; first++ {
		for _, behind := range []string{"\x00\x00\x00\x00", "\x7f\xff\xff\xff", "\xff\xff\xff\xff\xff", "a longer one, of which no byte is asked"} {
			s := string([]byte{byte(first)}) + behind
			isRefused(t, s, ranges.Of(s), 0)
		}
	}
	for _, s := range []string{none, "\x00\xff\xff\xff\xff", "\x00\x7f\xff\xff\xffmore", "\x00\x00\x00\x00\x01\x00", "\x00" + strings.Repeat("z", 1000)} {
		b := of(t, s)
		isAgainstArguments(t, s, b.d, 5)
		for total := range 70000 {
			b.peek(t, total-2000)
		}
		b.take(t, 0, 1, 1)
		isAgainstArguments(t, s, b.d, 5)
	}
}

// A decoder that is none answers, too.
func TestNoDecoder(t *testing.T) {
	var d *ranges.Decoder
	for _, n := range []int{-1, 0, 1, 2, 16, 17, 65536} {
		a, e := d.Peek(n)
		b, f := d.Bits(n)
		if g := d.Take(0, 1, n); a != 0 || b != 0 || e != api.ErrArg || f != api.ErrArg || g != api.ErrArg {
			t.Fatalf("of %d: %d, error %d; %d, error %d; error %d", n, a, e, b, f, g)
		}
	}
	if d.Used() != 0 {
		t.Fatalf("Used is %d", d.Used())
	}
}

// A decoder that Of did not give is as one of no text.
func TestDecoderOfNoOf(t *testing.T) {
	isRefused(t, "", &ranges.Decoder{}, 0)
}

// Codes of texts that no encoder tells.
func TestCodesBeyond(t *testing.T) {
	d := ranges.Of("\x00\xff\xff\xff\xff\x12\x34")
	for _, c := range [][2]int{{1, 0}, {2, 1}, {3, 2}, {7, 6}, {255, 254}, {256, 255}, {65535, 65534}, {65536, 65535}} {
		if n, e := d.Peek(c[0]); n != c[1] || e != api.OK {
			t.Fatalf("Peek(%d) is %d, error %d", c[0], n, e)
		}
	}
	// 2^24 + 254 is left of the code, more than the range has: 256 times as great it is past 32 bits, of which 65024 stay.
	d = ranges.Of("\x00\xff\xff\xff\xff\x12")
	if e := d.Take(255, 1, 256); e != api.OK || d.Used() != 6 {
		t.Fatalf("error %d, Used %d", e, d.Used())
	}
	for _, total := range []int{1, 2, 256, 1000, 65535, 65536} {
		if n, e := d.Peek(total); n != 0 || e != api.OK {
			t.Fatalf("Peek(%d) is %d, error %d", total, n, e)
		}
	}
	r := numbers(1821)
	for range 3000 {
		isGoneThrough(t, &r, "\x00\xff\xff\xff"+bytesOf(&r, 1+r.below(60)))
	}
}

// bytesOf is so many bytes that look like chance.
func bytesOf(r *numbers, count int) string {
	b := make([]byte, count)
	for i := range b {
		b[i] = byte(r.next())
		if r.below(4) == 0 {
			b[i] = 255
		}
	}
	return string(b)
}

// isGoneThrough fails, unless calls of all kinds, one behind the other, answer of s what they do of the model.
func isGoneThrough(t *testing.T, r *numbers, s string) {
	t.Helper()
	b := of(t, s)
	for range 5 + 2*len(s) {
		total := r.total()
		n, e := b.peek(t, total)
		switch r.below(6) {
		case 0:
			b.bits(t, 1+r.below(16))
		case 1:
			b.take(t, 0, total, total)
		case 2:
			b.take(t, r.below(total), 1+r.below(3), total)
		case 3:
			b.take(t, n, total-n, total)
		default:
			if e == api.OK {
				b.take(t, n, 1, total)
			}
		}
	}
}

// Texts that look like chance, of which each Peek tells something.
func TestTextsOfChance(t *testing.T) {
	r := numbers(1822)
	for range 3000 {
		isGoneThrough(t, &r, "\x00"+bytesOf(&r, r.below(60)))
	}
	isGoneThrough(t, &r, "\x00"+bytesOf(&r, 5000))
	isGoneThrough(t, &r, strings.Repeat("\x00", 100))
	isGoneThrough(t, &r, "\x00"+strings.Repeat("\xff", 100))
}

// What Peek tells must be in the part that is taken; a part that does not have it is refused, and nothing changes.
func TestTakeOfOthers(t *testing.T) {
	r := numbers(1823)
	for range 300 {
		row := r.row(1+r.below(20), kinds)
		s, _ := textOf(row)
		b := of(t, s)
		for range row {
			total := r.total()
			n, _ := b.peek(t, total)
			for _, p := range [][2]int{{n + 1, 1}, {n - 1, 1}, {0, n}, {n + 1, total - n - 1}, {n - 2, 2}, {n + 1, 2}, {n + 2, 1}, {0, 1}, {total - 1, 1}} {
				within := n >= p[0] && n < p[0]+p[1]
				if mayBe(p[0], p[1], total) && !within {
					if e := b.take(t, p[0], p[1], total); e != api.ErrMalformed {
						t.Fatalf("Take(%d, %d, %d) of %d: error %d", p[0], p[1], total, n, e)
					}
				}
			}
			from := r.below(n + 1)
			b.take(t, from, n-from+1+r.below(total-n), total)
		}
	}
}

// Each part of ten: just those that have what Peek tells are taken.
func TestEachPart(t *testing.T) {
	for n := range 10 {
		s, _ := textOf([]part{{n, 1, 10, 0}})
		taken := 0
		for from := -1; from <= 11; from++ {
			for size := -1; size <= 12; size++ {
				b := of(t, s)
				if b.take(t, from, size, 10) == api.OK {
					taken++
				}
			}
		}
		if taken != (n+1)*(10-n) {
			t.Fatalf("%d parts with %d were taken", taken, n)
		}
	}
}

// isCutShort fails, unless a text that lacks bytes answers what the model does, up to where they lack and behind it.
func isCutShort(t *testing.T, s string, row []part) {
	t.Helper()
	b := of(t, s)
	for _, p := range row {
		if p.bits != 0 {
			b.bits(t, p.bits)
		} else if n, e := b.peek(t, p.total); e == api.OK {
			b.take(t, n, 1, p.total)
		}
	}
	if b.model.refused {
		isRefused(t, s, b.d, b.model.used)
	}
}

func TestBytesThatLack(t *testing.T) {
	r := numbers(1824)
	lacked := 0
	for range 60 {
		row := r.row(20, 1+5*r.below(2))
		for i := range row {
			if r.below(3) == 0 {
				row[i] = r.part(8)
			}
		}
		s, _ := textOf(row)
		for length := range len(s) + 1 {
			isCutShort(t, s[:length], row)
			if length >= 5 && length < len(s) {
				lacked++
			}
		}
	}
	if lacked < 500 {
		t.Fatalf("bytes lacked %d times", lacked)
	}
}

// By hand: a Take that needs two bytes, and finds none, one, or both. One that lacks a byte has used none.
func TestTwoBytesLack(t *testing.T) {
	takes := []func(d *ranges.Decoder) api.Errno{
		func(d *ranges.Decoder) api.Errno { return d.Take(0, 1, 65536) },
		func(d *ranges.Decoder) api.Errno {
			n, e := d.Bits(16)
			if n != 0 {
				return -1
			}
			return e
		},
	}
	for _, take := range takes {
		for more := range 2 {
			d := ranges.Of(none + strings.Repeat("\x00", more))
			if e := take(d); e != api.ErrMalformed || d.Used() != 5 {
				t.Fatalf("%d bytes: error %d, Used %d", more, e, d.Used())
			}
			isRefused(t, none, d, 5)
		}
		d := ranges.Of(none + "\x00\x00")
		if e := take(d); e != api.OK || d.Used() != 7 {
			t.Fatalf("error %d, Used %d", e, d.Used())
		}
		// The next one lacks both.
		if e := take(d); e != api.ErrMalformed || d.Used() != 7 {
			t.Fatalf("error %d, Used %d", e, d.Used())
		}
		isRefused(t, none, d, 7)
	}
	// One byte: the range is 2^24 - 1.
	d := ranges.Of(none)
	if e := d.Take(0, 1, 256); e != api.ErrMalformed || d.Used() != 5 {
		t.Fatalf("error %d, Used %d", e, d.Used())
	}
	isRefused(t, none, d, 5)
	d = ranges.Of(none + "\x00")
	if e := d.Take(0, 1, 256); e != api.OK || d.Used() != 6 {
		t.Fatalf("error %d, Used %d", e, d.Used())
	}
	// None: the range is far above 2^24.
	d = ranges.Of(none)
	if e := d.Take(0, 1, 255); e != api.OK || d.Used() != 5 {
		t.Fatalf("error %d, Used %d", e, d.Used())
	}
}

// A Take of what Peek does not tell is refused ahead of a byte that lacks, so that there is a way on.
func TestOtherPartAheadOfLacking(t *testing.T) {
	d := ranges.Of(none)
	for _, e := range []api.Errno{d.Take(1, 1, 65536), d.Take(5, 7, 65536)} {
		if e != api.ErrMalformed {
			t.Fatalf("error %d", e)
		}
	}
	if n, e := d.Bits(3); n != 0 || e != api.OK {
		t.Fatalf("%d, error %d", n, e)
	}
}

// Wrong arguments change nothing, wherever the decoder stands.
func TestWrongArgumentsChangeNothing(t *testing.T) {
	r := numbers(1825)
	for range 100 {
		row := r.row(r.below(30), kinds)
		s, _ := textOf(row)
		b := of(t, s)
		for _, p := range row {
			isAgainstArguments(t, s, b.d, b.model.used)
			if e := b.take(t, p.from, p.size, p.total); e != api.OK {
				t.Fatalf("%v is not taken: error %d", p, e)
			}
		}
	}
}
