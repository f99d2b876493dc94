package ranges_test

import (
	"fmt"
	"math"
	"slices"
	"testing"

	"lacquer/api"
	"lacquer/ranges"
	"lacquer/sums"
)

// Promise 18.1.

// none is the text of nothing.
const none = "\x00\x00\x00\x00\x00"

// The chapter's examples.
func TestExamples(t *testing.T) {
	isText(t, "nothing", ranges.New().Finish(), none)
	e := ranges.New()
	if errno := e.Put(1, 1, 2); errno != api.OK {
		t.Fatalf("error %d", errno)
	}
	isText(t, "Put(1, 1, 2)", e.Finish(), "\x00\x7f\xff\xff\xff")
}

// Texts worked out by hand.
func TestByHand(t *testing.T) {
	for _, c := range []struct {
		row  []part
		text string
	}{
		{[]part{{0, 1, 1, 0}}, none},
		{[]part{{0, 65536, 65536, 0}}, none},
		{[]part{{0, 1, 2, 0}}, none},
		{[]part{{0, 1, 255, 0}}, none},
		{[]part{{254, 1, 255, 0}}, "\x00\xfe\xfe\xfe\xfe"},
		{[]part{{0, 1, 256, 0}}, none + "\x00"}, // the range is 2^24 - 1
		{[]part{{255, 1, 256, 0}}, "\x00\xfe\xff\xff\x01\x00"},
		{[]part{{0, 1, 65536, 0}}, none + "\x00\x00"},
		{[]part{ofBits(0, 16)}, none + "\x00\x00"},
		{[]part{ofBits(1, 16)}, "\x00\x00\x00\xff\xff\x00\x00"},
		{[]part{{65535, 1, 65536, 0}}, "\x00\xff\xfe\x00\x01\x00\x00"}, // low is 255 times 2^24 at the least, so that a byte is held behind the first one
		{[]part{{0, 2, 4, 0}, {1, 1, 2, 0}}, "\x00\x3f\xff\xff\xff"},
		// Behind eight of them the range is 2^24 - 1, and low 2^32 - 2^24 - 8; the ninth carries.
		{slices.Repeat([]part{ofBits(1, 1)}, 8), "\x00\xfe\xff\xff\xf8\x00"},
		{slices.Repeat([]part{ofBits(1, 1)}, 9), "\x00\xff\x7f\xff\xf7\x80"},
	} {
		isText(t, fmt.Sprint(c.row), finished(t, ranges.New(), c.row), c.text)
		isPut(t, c.row)
	}
}

// rowWorkedOut is a row, and what another program told of its text: how long it is, its beginning and end, and its Crc32.
type rowWorkedOut struct {
	formula    func(n int) part
	length     int
	begin, end string
	crc        int
}

func rowsWorkedOut() []rowWorkedOut {
	mixed := func(n int) part {
		if n%3 == 2 {
			p := ofBits(0, n%16+1)
			p.from = n * 37 % p.total
			return p
		}
		total := n*n*7919%65536 + 1
		from := n * 31 % total
		return part{from, n*17%(total-from) + 1, total, 0}
	}
	last := func(n int) part {
		total := n*n*n%65536 + 1
		return part{total - 1, 1, total, 0}
	}
	flat := func(n int) part {
		total := 65536 - n%700
		return part{total/3 + n%5, total / 2, total, 0}
	}
	return []rowWorkedOut{
		{mixed, 5361, "\x00\x01\x26\x0e\x31\xe1\x94\xd8\x7c\x1c\x9d\xf8", "\xed\x24\x5e\xa0\x84\x47\x44\x00", 1149725770},
		{last, 16131, "\x00\xff\xff\xff\xee\xfb\x31\x4f\xd9\x57\xfc\x48", "\xf4\xef\xeb\x69\x21\xb0\x00\x00", 2540185910},
		{flat, 1130, "\x00\xaa\xaa\xc5\xcd\x36\x44\x6c\x88\xd9\x11\xb2", "\x7a\xb0\xf5\x61\x58\x1e\x54\x00", 888831288},
	}
}

func TestRowsWorkedOut(t *testing.T) {
	for i, w := range rowsWorkedOut() {
		row := ofFormula(9000, w.formula)
		s := finished(t, ranges.New(), row)
		if len(s) != w.length || s[:12] != w.begin || s[len(s)-8:] != w.end || sums.Crc32(s) != w.crc {
			t.Fatalf("row %d: %s, its end %x, Crc32 %d", i, short(s), s[max(0, len(s)-8):], sums.Crc32(s))
		}
		isPut(t, row)
	}
}

// ints is numbers next to which something changes.
func ints() []int {
	return []int{math.MinInt, math.MinInt + 1, -1 << 32, -1 << 31, -65537, -65536, -2, -1, 0, 1, 2, 3, 15, 16, 17, 31, 32, 33, 63, 64, 65, 255, 256, 65534, 65535, 65536, 65537, 1 << 31, 1<<32 - 1, 1 << 32, 1<<32 + 1, math.MaxInt - 65536, math.MaxInt - 1, math.MaxInt}
}

// around is numbers around n.
func around(n int) []int { return []int{n - 1, n, n + 1} }

// wants is the error that Put and Bits answer.
func wants(allowed bool) api.Errno {
	if allowed {
		return api.OK
	}
	return api.ErrArg
}

func TestWhatPutTakes(t *testing.T) {
	taken := 0
	for _, total := range ints() {
		for _, from := range slices.Concat(ints(), around(total), around(total/2)) {
			for _, size := range slices.Concat(ints(), around(total), around(total-from), around(math.MaxInt-from)) {
				e := ranges.New()
				allowed := mayBe(from, size, total)
				if errno := e.Put(from, size, total); errno != wants(allowed) {
					t.Fatalf("Put(%d, %d, %d): error %d", from, size, total, errno)
				}
				want := none
				if allowed {
					taken++
					want, _ = textOf([]part{{from, size, total, 0}})
				}
				isText(t, fmt.Sprintf("Put(%d, %d, %d)", from, size, total), e.Finish(), want)
			}
		}
	}
	if taken < 200 {
		t.Fatalf("%d Puts were taken", taken)
	}
}

// Each total that may be is taken.
func TestEachTotal(t *testing.T) {
	e := ranges.New()
	var row []part
	for total := 1; total <= 65536; total++ {
		row = append(row, part{total - 1, 1, total, 0}, part{0, total, total, 0})
		for _, p := range [][3]int{{0, total + 1, total}, {total, 1, total}, {total - 1, 2, total}, {0, 0, total}, {-1, 1, total}} {
			if errno := e.Put(p[0], p[1], p[2]); errno != api.ErrArg {
				t.Fatalf("Put(%d, %d, %d): error %d", p[0], p[1], p[2], errno)
			}
		}
	}
	want, _ := textOf(row)
	isText(t, "each total", finished(t, e, row), want)
}

func TestWhatBitsTakes(t *testing.T) {
	for _, width := range slices.Concat(ints(), []int{4, 5, 6, 7, 8, 9, 10, 11, 12, 13, 14}) {
		top := 1
		if width >= 1 && width <= 16 {
			top = ofBits(0, width).total
		}
		for _, n := range slices.Concat(ints(), around(top), around(top/2)) {
			e := ranges.New()
			allowed := width >= 1 && width <= 16 && n >= 0 && n < top
			if errno := e.Bits(n, width); errno != wants(allowed) {
				t.Fatalf("Bits(%d, %d): error %d", n, width, errno)
			}
			want := none
			if allowed {
				want, _ = textOf([]part{{n, 1, top, 0}})
			}
			isText(t, fmt.Sprintf("Bits(%d, %d)", n, width), e.Finish(), want)
		}
	}
}

// A refused call leaves the encoder as it was, wherever it stands.
func TestRefusedCallsChangeNothing(t *testing.T) {
	r := numbers(1811)
	for range 200 {
		e := ranges.New()
		row := r.row(r.below(60), kinds)
		for _, p := range row {
			for i, errno := range []api.Errno{
				e.Put(0, 1, 0), e.Put(0, 1, -1), e.Put(0, 1, 65537), e.Put(-1, 1, 2), e.Put(2, 1, 2), e.Put(1, 2, 2), e.Put(0, 0, 2), e.Put(0, -5, 9),
				e.Put(1, math.MaxInt, 2), e.Put(math.MaxInt, math.MaxInt, 65536), e.Put(math.MinInt, math.MinInt, math.MinInt), e.Put(5, math.MinInt, 65536),
				e.Bits(0, 0), e.Bits(0, 17), e.Bits(2, 1), e.Bits(-1, 16), e.Bits(65536, 16), e.Bits(0, 64), e.Bits(1, -1),
			} {
				if errno != api.ErrArg {
					t.Fatalf("refused call %d: error %d", i, errno)
				}
			}
			put(e, p)
		}
		want, _ := textOf(row)
		isText(t, "a row with refused calls", e.Finish(), want)
	}
}

// isAsNew fails, unless Finish begins anew, whatever the row in e was.
func isAsNew(t *testing.T, e *ranges.Encoder, row []part) {
	t.Helper()
	want, _ := textOf(row)
	isText(t, "the row", finished(t, e, row), want)
	isText(t, "nothing behind Finish", e.Finish(), none)
	isText(t, "nothing behind Finish twice", e.Finish(), none)
	isText(t, "the row again", finished(t, e, row), want)
	behind := []part{{1, 1, 2, 0}, ofBits(77, 7), {65535, 1, 65536, 0}, {999, 1, 1000, 0}}
	want, _ = textOf(behind)
	isText(t, "another row behind Finish", finished(t, e, behind), want)
}

func TestFinishBeginsAnew(t *testing.T) {
	r := numbers(1812)
	e := ranges.New()
	isAsNew(t, e, nil)
	isAsNew(t, ranges.New(), nil)
	for range 300 {
		isAsNew(t, e, r.row(r.below(30), kinds))
	}
	for held := range 20 {
		isAsNew(t, e, onTheEdge(&r, held))
	}
}

// Rows in which low, at a Shift, and the range, ahead of it, are just such.
func TestEdges(t *testing.T) {
	r := numbers(1813)
	all := came{}
	for range 40 {
		var rows [][]part
		for _, low := range []int{4278190079, 4278190080, 4278190081, 4294967295, 4294967296, 4294967297, 0, 16777215, 16777216} {
			rows = append(rows, rowWith(&r, func(m *encoderModel) (part, bool) { return reaching(m, low) }))
		}
		for _, span := range []int{16777215, 16777216, 16777217, 65535, 65536, 65537} {
			rows = append(rows, rowWith(&r, func(m *encoderModel) (part, bool) { return narrowing(m, span) }))
		}
		for _, row := range rows {
			isPut(t, row)
			for edge, count := range isPut(t, append(row, r.row(20, kinds)...)) {
				all[edge] += count
			}
		}
	}
	for _, edge := range []string{
		"low just below 255 times 2^24", "low just 255 times 2^24", "low 2^32 - 1", "low 2^32",
		"range just below 2^24", "range just 2^24", "range just below 2^16", "range just 2^16",
		"no Shift", "one Shift", "two Shifts",
	} {
		if all[edge] < 40 {
			t.Errorf("the rows came %d times to this: %s", all[edge], edge)
		}
	}
}

// Bytes of 255 are held, one behind the other, till a carry goes through them, or none.
func TestHeldBytes(t *testing.T) {
	r := numbers(1814)
	all := came{}
	for _, held := range []int{0, 1, 2, 3, 4, 5, 6, 7, 8, 9, 10, 50, 254, 255, 256, 257, 1000, 5000} {
		for _, above := range []bool{false, true, false, true} {
			var row []part
			for {
				row = onTheEdge(&r, held)
				if p, ok := behindEdge(modelBehind(row), above); ok {
					row = append(row, p)
					break
				}
			}
			isPut(t, row)
			for edge, count := range isPut(t, append(row, r.row(10, kinds)...)) {
				all[edge] += count
			}
		}
	}
	// Finish alone may end them, too.
	for held := range 30 {
		isPut(t, onTheEdge(&r, held))
	}
	for _, edge := range []string{"carry", "no carry", "carry through two", "carry through many", "many of 255 without a carry"} {
		if all[edge] == 0 {
			t.Errorf("no row came to this: %s", edge)
		}
	}
}

// A byte of 255 that is held because a carry has come already: no other one comes to it.
func TestHeldByteOf255(t *testing.T) {
	r := numbers(1815)
	all := came{}
	eight := slices.Repeat([]part{ofBits(1, 1)}, 8)
	by := append(slices.Clone(eight), part{65535, 1, 65536, 0})
	isText(t, "by hand", finished(t, ranges.New(), by), "\x00\xff\xff\xfd\xf8\x01\x00\x00")
	for range 100 {
		total := 300 + r.below(65236)
		row := append(slices.Clone(eight), part{total - 1, 1, total, 0})
		isPut(t, row)
		for edge, count := range isPut(t, append(row, r.row(20, 3)...)) {
			all[edge] += count
		}
	}
	for _, edge := range []string{"held byte becomes 255", "held byte of 255 without a carry"} {
		if all[edge] < 100 {
			t.Errorf("the rows came %d times to this: %s", all[edge], edge)
		}
	}
}

// Rows of all kinds, as the models have them.
func TestRowsAsTheModels(t *testing.T) {
	r := numbers(1816)
	all := came{}
	for kind := range kinds + 1 {
		for range 200 {
			for edge, count := range isPut(t, r.row(r.below(100), kind)) {
				all[edge] += count
			}
		}
		isPut(t, r.row(3000, kind))
	}
	for _, edge := range []string{"carry", "no carry", "carry through one", "one of 255 without a carry", "no Shift", "one Shift", "two Shifts"} {
		if all[edge] == 0 {
			t.Errorf("no row came to this: %s", edge)
		}
	}
}

// An encoder that is none answers, too.
func TestNoEncoder(t *testing.T) {
	var e *ranges.Encoder
	if a, b, s := e.Put(1, 1, 2), e.Bits(1, 1), e.Finish(); a != api.ErrArg || b != api.ErrArg || s != "" {
		t.Fatalf("errors %d, %d, %s", a, b, short(s))
	}
	if a, b := e.Put(1, 1, 1), e.Bits(1, 17); a != api.ErrArg || b != api.ErrArg {
		t.Fatalf("errors %d, %d", a, b)
	}
}

// An encoder that New did not give ends its calls all the same.
func TestEncoderOfNoNew(t *testing.T) {
	isAsNew(t, &ranges.Encoder{}, []part{{1, 1, 2, 0}, ofBits(500, 9)})
	isAsNew(t, &ranges.Encoder{}, nil)
}
