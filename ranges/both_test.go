package ranges_test

import (
	"slices"
	"testing"

	"lacquer/api"
	"lacquer/ranges"
)

// Promise 18.3. (isPut takes each row again, too.)

// isBack fails, unless the row is told by Peek and taken again, with all bytes used, whatever stands behind them.
func isBack(t *testing.T, row []part) {
	t.Helper()
	s := finished(t, ranges.New(), row)
	for _, behind := range []string{"", "\x00", "\xff\xff\xff"} {
		d := ranges.Of(s + behind)
		for i, p := range row {
			n, e := d.Peek(p.total)
			if e != api.OK || n < p.from || n >= p.from+p.size {
				t.Fatalf("%s: part %d is %v, but Peek tells %d, error %d", short(s), i, p, n, e)
			}
			if p.bits == 0 {
				e = d.Take(p.from, p.size, p.total)
			} else {
				n, e = d.Bits(p.bits)
			}
			if e != api.OK || p.bits != 0 && n != p.from {
				t.Fatalf("%s: part %d is %v, but %d is taken, error %d", short(s), i, p, n, e)
			}
		}
		if d.Used() != len(s) {
			t.Fatalf("%s: %d bytes are used", short(s), d.Used())
		}
	}
}

func TestThereAndBack(t *testing.T) {
	r := numbers(1831)
	isBack(t, nil)
	for kind := range kinds + 1 {
		for range 300 {
			isBack(t, r.row(r.below(40), kind))
		}
		isBack(t, r.row(50000, kind))
	}
	for held := range 50 {
		isBack(t, onTheEdge(&r, held))
	}
}

// Each number of each width.
func TestBitsThereAndBack(t *testing.T) {
	for width := 1; width <= 16; width++ {
		var row []part
		for n := range ofBits(0, width).total {
			row = append(row, ofBits(n, width))
		}
		isBack(t, row)
	}
}

// Each part of small totals, ahead of and behind others.
func TestEachSmallPart(t *testing.T) {
	var row []part
	for total := 1; total <= 12; total++ {
		for from := range total {
			for size := 1; size <= total-from; size++ {
				row = append(row, part{from, size, total, 0})
			}
		}
	}
	isBack(t, row)
	slices.Reverse(row)
	isBack(t, row)
	for _, p := range row {
		isBack(t, []part{p})
		isBack(t, slices.Repeat([]part{p}, 70))
	}
}

// Parts as a model puts them: each of so many classes has its count, and each number that comes makes its own greater.
func TestCountsThereAndBack(t *testing.T) {
	r := numbers(1832)
	counts, row := slices.Repeat([]int{1}, 42), []part{}
	for range 30000 {
		class, total, from := min(r.below(42), r.below(42), r.below(42)), 0, 0
		for i, n := range counts {
			total += n
			if i < class {
				from += n
			}
		}
		row = append(row, part{from, counts[class], total, 0}, ofBits(r.below(8), 3))
		counts[class] += 32
		if total+32 > 32768 {
			for i := range counts {
				counts[i] = (counts[i] + 1) / 2
			}
		}
	}
	isBack(t, row)
	isPut(t, row)
}

// What is likely needs few bytes: 10000 parts of 1023 out of 1024 have some 14 bits together.
func TestLikelyPartsAreShort(t *testing.T) {
	s := finished(t, ranges.New(), slices.Repeat([]part{{1, 1023, 1024, 0}}, 10000))
	if len(s) > 8 {
		t.Fatalf("%d bytes", len(s))
	}
	s = finished(t, ranges.New(), slices.Repeat([]part{{0, 65536, 65536, 0}}, 10000))
	if len(s) != 5 {
		t.Fatalf("%d bytes", len(s))
	}
}

// The longest one that is asked for here.
func TestLongRow(t *testing.T) {
	r := numbers(1833)
	isBack(t, r.row(api.MaxSamples, 0))
}

// partsOf is a row that bytes tell, four for each part.
func partsOf(s string) []part {
	var row []part
	for ; len(s) >= 4; s = s[4:] {
		a, b := int(s[0])<<8|int(s[1]), int(s[2])<<8|int(s[3])
		switch a % 4 {
		case 0:
			p := ofBits(0, a>>4%16+1)
			p.from = b % p.total
			row = append(row, p)
		case 1:
			row = append(row, part{b, 1, 65536, 0})
		case 2:
			row = append(row, part{min(a, b), max(a, b) - min(a, b) + 1, max(a, b) + 1, 0})
		default:
			row = append(row, part{b % (a + 1), 1 + b%(a+1-b%(a+1)), a + 1, 0})
		}
	}
	return row
}

// FuzzRanges looks for rows that become another text or do not come back, and for texts that are answered otherwise than by the model.
func FuzzRanges(f *testing.F) {
	f.Add("\x00\x7f\xff\xff\xff\x12\x34")
	f.Add("\x00\xff\xff\xff\xff\x00\x00\x01\x00\x03\xff\xff")
	f.Add(none)
	f.Add("\x01\x02\x03")
	f.Fuzz(func(t *testing.T, s string) {
		if len(s) > 4000 {
			return
		}
		row := partsOf(s)
		isPut(t, row)
		b := of(t, s)
		for _, p := range row {
			b.peek(t, p.total)
			b.take(t, p.from, p.size, p.total)
			n, _ := b.peek(t, p.total)
			b.take(t, min(n, p.from), max(n, p.from)-min(n, p.from)+1, p.total)
			b.bits(t, p.from%19-1)
		}
		if len(s) > 8 && s[0] == 0 {
			isGoneThrough(t, new(numbers), s[:8]+s[len(s)-4:])
		}
	})
}
