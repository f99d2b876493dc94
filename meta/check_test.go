package meta_test

import (
	"math"
	"slices"
	"strings"
	"testing"

	"lacquer/api"
)

// Promise 13.2.

func TestExamplesOfCheck(t *testing.T) {
	isCheck(t, "STREAMINFO", api.Block{Body: exampleText}, api.OK)
	isCheck(t, "SEEKTABLE of 17 bytes", api.Block{Type: 3, Body: strings.Repeat("s", 17)}, api.ErrMalformed)
	isCheck(t, "type 127", api.Block{Type: 127}, api.ErrMalformed)
	r := numbers(1321)
	for range 300 {
		isCheck(t, "padding of 5 bytes", api.Block{Type: 1, Body: r.text(5)}, api.OK)
	}
}

// right is a Body that a block of each type may have, the types beyond all too.
func right(blockType int) string {
	r := numbers(1322)
	switch blockType {
	case 0:
		return exampleText
	case 2:
		return "appl"
	case 3:
		return r.text(36)
	case 5:
		return r.cueSheet(2)
	case 6:
		return r.picture(3, 4, 5)
	}
	return "x"
}

func TestTypes(t *testing.T) {
	for n := -300; n <= 300; n++ {
		want := api.OK
		if n < 0 || n > 126 {
			want = api.ErrMalformed
		}
		isCheck(t, "a type", api.Block{Type: n, Body: right(n)}, want)
	}
	for _, n := range []int{math.MinInt, math.MaxInt, 1 << 32, 1<<32 + 1, -1 << 32, 129, 256} {
		for _, body := range []string{"", right(n), right(n & 127)} {
			isCheck(t, "a type", api.Block{Type: n, Body: body}, api.ErrMalformed)
		}
	}
}

// Whatever a type that the chapter doesn't name holds.
func TestTypesOfAnyBody(t *testing.T) {
	r := numbers(1323)
	for n := 1; n <= 126; n++ {
		if slices.Contains([]int{2, 3, 5, 6}, n) {
			continue
		}
		for _, length := range []int{0, 1, 3, 5, 17, 18, 33, 34, 35, 396, 432} {
			isCheck(t, "a type of anything", api.Block{Type: n, Body: r.text(length)}, api.OK)
		}
	}
}

// The longest Body, and one byte more, of each kind of type.
func TestLongBodies(t *testing.T) {
	const most = 1<<24 - 1
	long := strings.Repeat("\x00", most+32)
	for _, n := range []int{1, 2, 4, 7, 126} {
		isCheck(t, "the longest", api.Block{Type: n, Body: long[:most]}, api.OK)
		isCheck(t, "one more", api.Block{Type: n, Body: long[:most+1]}, api.ErrMalformed)
	}
	points := most / 18 * 18
	isCheck(t, "the longest SEEKTABLE", api.Block{Type: 3, Body: long[:points]}, api.OK)
	isCheck(t, "one point more", api.Block{Type: 3, Body: long[:points+18]}, api.ErrMalformed)
	isCheck(t, "the longest, which is none", api.Block{Type: 3, Body: long[:most]}, api.ErrMalformed)
	for _, more := range []int{0, 1} {
		want := []api.Errno{api.OK, api.ErrMalformed}[more]
		data := most + more - 32
		isCheck(t, "a picture", api.Block{Type: 6, Body: long[:28] + be(data) + long[:data]}, want)
	}
	isCheck(t, "a STREAMINFO", api.Block{Body: exampleText + long[:most]}, api.ErrMalformed)
	isCheck(t, "a STREAMINFO", api.Block{Body: infoText(with(partOf("Width"), 25)) + long}, api.ErrMalformed)
	isCheck(t, "a type past the last", api.Block{Type: 127, Body: long[:most]}, api.ErrMalformed)
	isCheck(t, "both", api.Block{Type: -1, Body: long}, api.ErrMalformed)
}

// Of STREAMINFO it is Info's error.
func TestCheckOfInfo(t *testing.T) {
	for _, c := range edgesOfInfo() {
		isCheck(t, c.name, api.Block{Body: infoText(with(partOf(c.name), c.n))}, c.want)
	}
	for _, n := range []int{0, 1, 33, 35, 68} {
		isCheck(t, "a length", api.Block{Body: (exampleText + exampleText)[:n]}, api.ErrMalformed)
	}
}

func TestLengthsOfShortBodies(t *testing.T) {
	for n := range 100 {
		body := strings.Repeat("x", n)
		application, table := api.ErrMalformed, api.ErrMalformed
		if n >= 4 {
			application = api.OK
		}
		if n%18 == 0 {
			table = api.OK
		}
		isCheck(t, "APPLICATION", api.Block{Type: 2, Body: body}, application)
		isCheck(t, "SEEKTABLE", api.Block{Type: 3, Body: body}, table)
	}
}

// justSo fails, unless the Body is right, and neither what is cut off anywhere nor what has more bytes is.
func justSo(t *testing.T, what string, b api.Block) {
	t.Helper()
	isCheck(t, what, b, api.OK)
	for _, more := range []string{"\x00", "\xff", strings.Repeat("\x00", 12), strings.Repeat("\x00", 36)} {
		isCheck(t, what+", and more", api.Block{Type: b.Type, Body: b.Body + more}, api.ErrMalformed)
	}
	step := 1 + len(b.Body)/2000
	for n := 0; n < len(b.Body); n += step {
		isCheck(t, what+", cut off", api.Block{Type: b.Type, Body: b.Body[:n]}, api.ErrMalformed)
	}
	isCheck(t, what+", a byte too short", api.Block{Type: b.Type, Body: b.Body[:len(b.Body)-1]}, api.ErrMalformed)
}

func TestCueSheets(t *testing.T) {
	r := numbers(1324)
	hundred := make([]int, 100)
	for i := range hundred {
		hundred[i] = i % 4
	}
	for _, indexes := range [][]int{{0}, {1}, {2}, {255}, {0, 0}, {1, 0}, {0, 1}, {3, 0, 2}, {255, 255}, make([]int, 99), make([]int, 100), hundred, slices.Repeat([]int{255}, 100)} {
		justSo(t, "a cuesheet", api.Block{Type: 5, Body: r.cueSheet(indexes...)})
	}
	for _, n := range []int{0, 101, 102, 128, 255} {
		isCheck(t, "a number of tracks", api.Block{Type: 5, Body: r.cueSheet(make([]int, n)...)}, api.ErrMalformed)
		isCheck(t, "a number of tracks", api.Block{Type: 5, Body: r.cueSheet(slices.Repeat([]int{1}, n)...)}, api.ErrMalformed)
	}
	// 396 bytes alone, whatever number their last one is.
	for n := range 256 {
		isCheck(t, "no tracks", api.Block{Type: 5, Body: r.text(395) + string([]byte{byte(n)})}, api.ErrMalformed)
	}
}

// Of a cuesheet only the numbers of tracks and of indexes are looked at.
func TestBytesOfCueSheets(t *testing.T) {
	r := numbers(1325)
	body := r.cueSheet(1, 0, 2)
	counts := []int{395, 396 + 35, 396 + 36 + 12 + 35, 396 + 36 + 12 + 36 + 35}
	for at := range len(body) {
		for _, turned := range []byte{1, 2, 128, 255} {
			changed := swapped(body, at, string([]byte{body[at] ^ turned}))
			want := api.OK
			if slices.Contains(counts, at) {
				want = api.ErrMalformed
			}
			isCheck(t, "a byte", api.Block{Type: 5, Body: changed}, want)
		}
	}
	// An index that goes from one track to the next leaves the length as it was.
	moved := api.Block{Type: 5, Body: r.cueSheet(2, 1)}
	other := swapped(swapped(moved.Body, 396+35, "\x01"), 396+36+12+35, "\x02")
	isCheck(t, "an index moved", api.Block{Type: 5, Body: other}, api.OK)
}

func TestPictures(t *testing.T) {
	r := numbers(1326)
	for _, n := range [][3]int{{0, 0, 0}, {1, 0, 0}, {0, 1, 0}, {0, 0, 1}, {9, 0, 7}, {10, 12, 300}, {256, 257, 255}, {65536, 1, 70000}} {
		justSo(t, "a picture", api.Block{Type: 6, Body: r.picture(n[0], n[1], n[2])})
	}
}

// lengthsAt is where the three lengths of a picture with texts of these lengths stand.
func lengthsAt(media, description int) []int {
	return []int{4, 8 + media, 8 + media + 4 + description + 16}
}

// Of a picture only its lengths are looked at.
func TestBytesOfPictures(t *testing.T) {
	r := numbers(1327)
	body := r.picture(3, 5, 7)
	places := lengthsAt(3, 5)
	for at := range len(body) {
		isLength := slices.ContainsFunc(places, func(from int) bool { return at >= from && at < from+4 })
		for _, turned := range []byte{64, 128, 192} {
			want := api.OK
			if isLength {
				want = api.ErrMalformed
			}
			isCheck(t, "a byte", api.Block{Type: 6, Body: swapped(body, at, string([]byte{body[at] ^ turned}))}, want)
		}
	}
}

// A length that points past the end, or short of it.
func TestLengthsOfPictures(t *testing.T) {
	body := strings.Repeat("\x00", 4) + be(3) + "\x00\x00\x00" + be(5) + "\x00\x00\x00\x00\x00" + strings.Repeat("\x00", 16) + be(7) + "1234567"
	isCheck(t, "as it is", api.Block{Type: 6, Body: body}, api.OK)
	for _, at := range lengthsAt(3, 5) {
		for _, n := range []int{len(body), len(body) + 1, 1<<24 - 1, 1 << 24, 1<<31 - 1, 1 << 31, 1<<32 - 1, 1<<32 - 4} {
			isCheck(t, "past the end", api.Block{Type: 6, Body: swapped(body, at, be(n))}, api.ErrMalformed)
		}
		for n := range len(body) + 20 {
			checks(t, api.Block{Type: 6, Body: swapped(body, at, be(n))})
		}
	}
	for _, n := range []int{6, 8} {
		isCheck(t, "one off", api.Block{Type: 6, Body: swapped(body, lengthsAt(3, 5)[2], be(n))}, api.ErrMalformed)
	}
	// What one text has more the other has less: as long again.
	isCheck(t, "moved", api.Block{Type: 6, Body: strings.Repeat("\x00", 4) + be(8) + strings.Repeat("\x00", 8) + be(0) + strings.Repeat("\x00", 16) + be(7) + "1234567"}, api.OK)
}

// Blocks that may be, and what comes of them by one byte, of each type.
func TestCheckOfAnyBlocks(t *testing.T) {
	r := numbers(1328)
	seen := map[api.Errno]int{}
	for range 20000 {
		b := r.block()
		if e := checks(t, b); e != api.OK {
			t.Fatalf("%s: %d", short(b), e)
		}
		switch r.below(4) {
		case 0:
			b.Body += r.text(1 + r.below(3))
		case 1:
			b.Body = b.Body[:r.below(len(b.Body)+1)]
		case 2:
			if b.Body != "" {
				b.Body = swapped(b.Body, r.below(len(b.Body)), r.text(1))
			}
		case 3:
			b.Type = r.below(8)
		}
		seen[checks(t, b)]++
	}
	if seen[api.OK] < 2000 || seen[api.ErrMalformed] < 2000 {
		t.Errorf("errors were seen so often: %v", seen)
	}
}
