package search_test

import (
	"slices"
	"testing"

	"lacquer/api"
	"lacquer/frame"
	"lacquer/search"
)

// Promise 12.4.

// isTaken fails, unless frame.Check takes what Frame tells, frame.Build the planes with it, and frame.Parse reads them as they were.
func isTaken(t *testing.T, s sample, level int) {
	t.Helper()
	f, e := frameOf(s, level)
	if e != api.OK || frame.Check(f, s.info) != api.OK {
		t.Fatalf("Frame(%s, %d): %s, error %d", short(s), level, short(f), e)
	}
	text, e := frame.Build(f, s.info, s.planes)
	planes, g, n, h := frame.Parse(text+"behind", s.info)
	if e != api.OK || h != api.OK || n != len(text) || !samePlanes(planes, s.planes) || !sameFrame(f, g) {
		t.Fatalf("Frame(%s, %d): %s became %s, %s, errors %d, %d", short(s), level, short(f), short(g), short(planes), e, h)
	}
}

// samePlanes says whether the samples are the same.
func samePlanes(a, b [][]int) bool { return slices.EqualFunc(a, b, slices.Equal) }

// bitsOfFrame is how many bits its Subs have.
func bitsOfFrame(s sample, f api.Frame) int {
	sum := 0
	for c, l := range coded(f.Mode, s.planes) {
		sum += bitsOf(f.Subs[c], widthOf(f.Mode, c, s.info.Width), l)
	}
	return sum
}

// isNoLonger fails, unless each level has at most as many bits as the one below it; it says whether one has fewer.
func isNoLonger(t *testing.T, s sample) bool {
	t.Helper()
	last, fewer := 0, false
	for level := range 3 {
		f, e := frameOf(s, level)
		n := bitsOfFrame(s, f)
		if e != api.OK || level > 0 && n > last {
			t.Fatalf("Frame(%s, %d): %d bits, and %d of the level below, error %d", short(s), level, n, last, e)
		}
		fewer = fewer || level > 0 && n < last
		last = n
	}
	return fewer
}

func TestWhatFrameTellsIsTaken(t *testing.T) {
	r := numbers(1241)
	for i := range 2000 {
		s := r.sampleOf(1+r.below(8), 1+r.below(60))
		isTaken(t, s, i%3)
	}
	for channels := 1; channels <= 8; channels++ {
		for level := range 3 {
			for _, size := range []int{1, 192, 256, 4096, 4608} {
				isTaken(t, r.sampleOf(channels, size), level)
			}
			isTaken(t, r.sampleOf(channels, search.Size(level)), level)
		}
	}
}

// All widths, with samples at their edges.
func TestWidestIsTaken(t *testing.T) {
	for width := 4; width <= 24; width++ {
		least, most := -power(width-1), power(width-1)-1
		for level := range 3 {
			for _, planes := range [][][]int{
				{{least, most, least, most}, {most, least, most, least}},
				{{least, least}, {most, most}},
				{{most}, {least}},
				{{least, 0, 0, 0, 0}, {0, 0, 0, 0, most}},
			} {
				s := sample{stream(2, width, 1), 1<<31 - 1, planes}
				isTaken(t, s, level)
				isFrame(t, s, level)
			}
		}
	}
}

func TestHigherLevels(t *testing.T) {
	r := numbers(1242)
	fewer := 0
	for range 2000 {
		if isNoLonger(t, r.sampleOf(1+r.below(4), 1+r.below(60))) {
			fewer++
		}
	}
	for range 20 {
		isNoLonger(t, r.sampleOf(1+r.below(2), 4096))
	}
	if fewer < 300 {
		t.Errorf("a higher level has fewer bits %d times alone", fewer)
	}
	for range 3000 {
		width := 1 + r.below(33)
		l := r.plane(1+r.below(60), width)
		_, a := search.Sub(l, width, 0)
		_, b := search.Sub(l, width, 1)
		_, c := search.Sub(l, width, 2)
		if a < b || b < c || c < 0 {
			t.Fatalf("Sub(%s, %d): %d, %d, %d bits", short(l), width, a, b, c)
		}
	}
}

// FuzzFrame looks for samples that are answered otherwise than the chapter says, or that no frame has.
func FuzzFrame(f *testing.F) {
	r := numbers(1243)
	for _, text := range []string{"", "\x05\x05\x05\x05", "\x00\x01\x02\x03\x04\x05\x06\x07"} {
		f.Add(text, 1, 8, 44100, 0, 1)
		f.Add(text+text, 2, 24, 70011, 1<<31-1, 2)
	}
	for range 20 {
		text := make([]byte, r.below(60))
		for i := range text {
			text[i] = byte(r.signed(8))
		}
		f.Add(string(text), 1+r.below(8), 4+r.below(21), 1+r.below(655350), r.below(1000), r.below(3))
	}
	f.Fuzz(func(t *testing.T, text string, channels, width, rate, number, level int) {
		s := sample{info: stream(channels, width, rate), number: number, planes: planesOf(text, channels, width)}
		if _, e := frameModel(s, level); e != api.OK {
			isNoFrame(t, s, level, e)
		} else {
			isFrame(t, s, level)
			isTaken(t, s, level)
			isNoLonger(t, s)
		}
		if len(s.planes) > 0 && width >= 1 && width <= 33 && len(s.planes[0]) > 0 && level >= 0 && level <= 2 {
			isSub(t, s.planes[0], width, level)
		}
	})
}

// planesOf is the text's bytes as samples of channels, each a difference from the one ahead, or such a difference's difference.
func planesOf(text string, channels, width int) [][]int {
	if channels < 1 || channels > 16 || width < 1 || width > 40 {
		return nil
	}
	planes := make([][]int, channels)
	for i := range min(len(text), 1000) / channels * channels {
		l := planes[i%channels]
		n := int(int8(text[i]))
		if k := len(l); k > 0 && i%3 > 0 {
			n += l[k-1]
		}
		planes[i%channels] = append(l, clipped(n, width))
	}
	return planes
}
