package search_test

import (
	"slices"
	"testing"

	"lacquer/api"
)

// Promise 12.3.

// mono is samples of one channel of 8 bits.
func mono(rate int, l []int) sample {
	return sample{info: stream(1, 8, rate), number: 3, planes: [][]int{l}}
}

func TestExamplesOfFrame(t *testing.T) {
	for _, x := range [][2]int{{44100, 9}, {7000, 12}, {44101, 13}, {70010, 14}, {70011, 0}} {
		for level := range 3 {
			if f := isFrame(t, mono(x[0], up(16)), level); f.RateCode != x[1] || f.SizeCode != 6 || f.WidthCode != 1 || f.Number != 3 || f.Size != 16 || f.Variable {
				t.Errorf("rate %d: %s", x[0], short(f))
			}
		}
	}
	for _, x := range [][2]int{{192, 1}, {200, 6}, {300, 7}, {256, 8}} {
		if f := isFrame(t, mono(8000, make([]int, x[0])), 1); f.SizeCode != x[1] || f.Size != x[0] {
			t.Errorf("size %d: %s", x[0], short(f))
		}
	}
}

func TestSizeCodes(t *testing.T) {
	for _, x := range [][2]int{{1, 6}, {2, 6}, {191, 6}, {192, 1}, {193, 6}, {200, 6}, {255, 6}, {256, 8}, {257, 7}, {300, 7}, {511, 7}, {512, 9}, {513, 7},
		{575, 7}, {576, 2}, {577, 7}, {1023, 7}, {1024, 10}, {1025, 7}, {1151, 7}, {1152, 3}, {1153, 7}, {2047, 7}, {2048, 11}, {2049, 7},
		{2303, 7}, {2304, 4}, {2305, 7}, {4095, 7}, {4096, 12}, {4097, 7}, {4607, 7}, {4608, 5}} {
		for level := range 3 {
			f, e := frameOf(mono(8000, make([]int, x[0])), level)
			if e != api.OK || f.SizeCode != x[1] || f.Size != x[0] {
				t.Errorf("size %d, level %d: %s, error %d", x[0], level, short(f), e)
			}
		}
	}
	for size := 1; size <= 4608; size++ {
		f, e := frameOf(mono(8000, make([]int, size)), 0)
		if e != api.OK || f.SizeCode != sizeCodeOf(size) || f.Size != size {
			t.Errorf("size %d: %s, error %d", size, short(f), e)
		}
	}
	for _, size := range []int{0, 4609, 8192, 16384, 32768, 65535, 65536} {
		for level := range 3 {
			isNoFrame(t, mono(8000, make([]int, size)), level, api.ErrRecipe)
		}
	}
}

func TestRateCodes(t *testing.T) {
	for code, rate := range []int{0, 88200, 176400, 192000, 8000, 16000, 22050, 24000, 32000, 44100, 48000, 96000} {
		if code == 0 {
			continue
		}
		if f := isFrame(t, mono(rate, up(16)), 1); f.RateCode != code {
			t.Errorf("rate %d: code %d", rate, f.RateCode)
		}
		for _, by := range []int{-1000, -10, -1, 1, 10, 1000} {
			isFrame(t, mono(rate+by, up(16)), 1)
		}
	}
	for _, x := range [][2]int{{1, 13}, {2, 13}, {10, 13}, {999, 13}, {1000, 12}, {1001, 13}, {7000, 12}, {8010, 13}, {9000, 12}, {65000, 12}, {65530, 13},
		{65535, 13}, {65536, 0}, {65540, 14}, {65541, 0}, {66000, 12}, {88201, 0}, {88210, 14}, {254999, 0}, {255000, 12}, {255001, 0}, {255010, 14},
		{256000, 14}, {300000, 14}, {655340, 14}, {655349, 0}, {655350, 14}} {
		for level := range 3 {
			if f := isFrame(t, mono(x[0], up(16)), level); f.RateCode != x[1] {
				t.Errorf("rate %d: code %d, not %d", x[0], f.RateCode, x[1])
			}
		}
	}
	for rate := 1; rate <= api.MaxRate; rate += 1 + rate%7 {
		if f, e := frameOf(mono(rate, []int{1}), 0); e != api.OK || f.RateCode != rateCodeOf(rate) {
			t.Fatalf("rate %d: code %d, not %d, error %d", rate, f.RateCode, rateCodeOf(rate), e)
		}
	}
	for _, rate := range far(-44100, -1, 0, 655351, 655360, 705600) {
		if rate < 1 || rate > 655350 {
			isNoFrame(t, mono(rate, up(16)), 1, api.ErrRecipe)
		}
	}
}

func TestWidthCodes(t *testing.T) {
	for width := 4; width <= 24; width++ {
		s := sample{info: stream(1, width, 44100), planes: [][]int{{-power(width - 1), 0, power(width-1) - 1}}}
		want := map[int]int{8: 1, 12: 2, 16: 4, 20: 5, 24: 6}[width]
		for level := range 3 {
			if f := isFrame(t, s, level); f.WidthCode != want {
				t.Errorf("width %d: code %d", width, f.WidthCode)
			}
		}
	}
	for _, width := range far(-8, -1, 0, 1, 2, 3, 25, 26, 32, 33, 34, 64, 65) {
		s := mono(44100, []int{0, 0})
		s.info.Width = width
		isNoFrame(t, s, 1, api.ErrRecipe)
	}
}

// A sample at the edges of the width, and past them, of any channel and at any place.
func TestSamplesOfFrame(t *testing.T) {
	for _, width := range []int{4, 5, 8, 12, 16, 23, 24} {
		for channels := 1; channels <= 3; channels++ {
			for c := range channels {
				for _, at := range []int{0, 3, 8} {
					s := simple(channels, 9)
					s.info.Width = width
					for _, l := range s.planes {
						clear(l)
					}
					for _, n := range []int{-power(width - 1), power(width-1) - 1} {
						s.planes[c][at] = n
						isFrame(t, s, 2)
					}
					for _, n := range far(-power(width-1)-1, power(width-1), power(width)) {
						if !within(n, width) {
							s.planes[c][at] = n
							isNoFrame(t, s, 2, api.ErrRecipe)
							isNoFrame(t, s, 0, api.ErrRecipe)
						}
					}
				}
			}
		}
	}
}

func TestNumbers(t *testing.T) {
	for level := range 3 {
		for _, n := range []int{0, 1, 127, 128, 1<<31 - 2, 1<<31 - 1} {
			s := simple(2, 16)
			s.number = n
			if f := isFrame(t, s, level); f.Number != n || f.Variable {
				t.Errorf("number %d: %s", n, short(f))
			}
		}
		for _, n := range []int{-1, -2, -1 << 31, -1 << 63, 1 << 31, 1<<31 + 1, 1 << 32, 1<<36 - 1, 1 << 36, 1<<63 - 1} {
			s := simple(2, 16)
			s.number = n
			isNoFrame(t, s, level, api.ErrRecipe)
		}
	}
}

func TestPlanes(t *testing.T) {
	for level := range 3 {
		for channels := 1; channels <= 8; channels++ {
			isFrame(t, simple(channels, 20), level)
			for count := range 12 {
				if count != channels {
					s := simple(count, 20)
					s.info.Channels = channels
					isNoFrame(t, s, level, api.ErrRecipe)
				}
			}
			for c := range channels {
				for _, size := range []int{0, 1, 19, 21, 4608, 4609} {
					s := simple(channels, 20)
					s.planes[c] = make([]int, size)
					if channels > 1 || size == 0 || size > 4608 {
						isNoFrame(t, s, level, api.ErrRecipe)
					}
				}
			}
			isNoFrame(t, simple(channels, 0), level, api.ErrRecipe)
			isNoFrame(t, simple(channels, 4609), level, api.ErrRecipe)
		}
		isFrame(t, simple(1, 4608), level)
		isFrame(t, simple(2, 4608), level)
		isFrame(t, simple(3, 1), level)
	}
}

// Streams with no channels, and with more than a frame has, have no frames, also where there are as many planes.
func TestChannels(t *testing.T) {
	for level := range 3 {
		for _, count := range []int{0, 9, 10, 16, 256} {
			isNoFrame(t, simple(count, 16), level, api.ErrRecipe)
		}
		for _, channels := range far(-8, -1, 0, 9) {
			s := simple(1, 16)
			s.info.Channels = channels
			isNoFrame(t, s, level, api.ErrRecipe)
			s.planes = nil
			isNoFrame(t, s, level, api.ErrRecipe)
		}
	}
}

// What else a stream says plays no part.
func TestWhatElseAStreamSays(t *testing.T) {
	s := simple(2, 16)
	want := isFrame(t, s, 2)
	s.info.MinBlock, s.info.MaxBlock, s.info.MinFrame, s.info.MaxFrame = 4096, 15, 100000, -1
	s.info.Samples, s.info.Digest = 3, "no digest"
	if f := isFrame(t, s, 2); !sameFrame(f, want) {
		t.Errorf("%s, not %s", short(f), short(want))
	}
}

// A wrong level goes ahead of all else that is wrong.
func TestOrderOfErrors(t *testing.T) {
	wrong := func(spoil func(*sample)) {
		t.Helper()
		s := simple(2, 16)
		spoil(&s)
		for level := range 3 {
			isNoFrame(t, s, level, api.ErrRecipe)
		}
		for _, level := range far(-2, -1, 3, 4) {
			isNoFrame(t, s, level, api.ErrArg)
		}
	}
	wrong(func(s *sample) { s.info.Channels = 3 })
	wrong(func(s *sample) { s.info.Channels = -1 })
	wrong(func(s *sample) { s.info.Width = 3 })
	wrong(func(s *sample) { s.info.Width = 25 })
	wrong(func(s *sample) { s.info.Rate = 0 })
	wrong(func(s *sample) { s.info.Rate = 655351 })
	wrong(func(s *sample) { s.number = -1 })
	wrong(func(s *sample) { s.number = 1 << 31 })
	wrong(func(s *sample) { s.planes = nil })
	wrong(func(s *sample) { s.planes = s.planes[:1] })
	wrong(func(s *sample) { s.planes[1] = s.planes[1][:15] })
	wrong(func(s *sample) { s.planes = [][]int{{}, {}} })
	wrong(func(s *sample) { s.planes = [][]int{nil, nil} })
	wrong(func(s *sample) { s.planes = simple(2, 4609).planes })
	wrong(func(s *sample) { s.planes[1][15] = 32768 })
	wrong(func(s *sample) { *s = sample{} })
	for _, level := range far(-2, -1, 3, 4) {
		isNoFrame(t, simple(2, 16), level, api.ErrArg)
	}
}

// Two channels that each of the modes is the shortest for; level 0 has ModeAlone alone.
func TestEachMode(t *testing.T) {
	r := numbers(1231)
	line, noise := make([]int, 300), make([]int, 300)
	for i := range line {
		line[i], noise[i] = 40*i-5000, r.any(5)
	}
	// sum is the line, and so many times the noise.
	sum := func(times int) []int {
		var l []int
		for i := range line {
			l = append(l, line[i]+times*noise[i])
		}
		return l
	}
	for _, x := range []struct {
		mode   int
		planes [][]int
	}{
		{api.ModeAlone, [][]int{noise, line}},
		{api.ModeAlone, [][]int{line, noise}},
		{api.ModeLeft, [][]int{line, sum(1)}},
		{api.ModeLeft, [][]int{noise, sum(1)}},
		{api.ModeRight, [][]int{sum(1), line}},
		{api.ModeRight, [][]int{sum(1), noise}},
		{api.ModeMid, [][]int{sum(1), sum(-1)}},
		{api.ModeMid, [][]int{sum(-7), sum(7)}},
	} {
		s := sample{info: stream(2, 16, 44100), planes: x.planes}
		for level := range 3 {
			want := x.mode
			if level == 0 {
				want = api.ModeAlone
			}
			if f := isFrame(t, s, level); f.Mode != want {
				t.Errorf("level %d: mode %d, not %d", level, f.Mode, want)
			}
		}
	}
}

// Of the modes with as many bits the first is taken.
func TestTiesOfModes(t *testing.T) {
	for _, x := range []struct {
		a, b  []int
		width int
		bits  int
		modes []int
	}{
		{[]int{-128}, []int{-128}, 8, 32, []int{0}},
		{[]int{-2}, []int{-3}, 24, 42, []int{1}},
		{[]int{-3}, []int{-2}, 20, 41, []int{2}},
		{[]int{-1}, []int{1}, 15, 40, []int{3}},
		{[]int{1}, []int{-244}, 20, 49, []int{0, 1}},
		{[]int{-22}, []int{2}, 19, 47, []int{0, 2}},
		{[]int{2}, []int{-1}, 12, 40, []int{0, 3}},
		{[]int{-244, 4454}, []int{-246, 4446}, 16, 66, []int{1, 2}},
		{[]int{28}, []int{34}, 22, 48, []int{1, 3}},
		{[]int{5}, []int{2}, 16, 44, []int{2, 3}},
		{[]int{6, 10}, []int{6, 8}, 8, 46, []int{0, 1, 2}},
		{[]int{-2}, []int{4}, 17, 44, []int{0, 1, 3}},
		{[]int{21}, []int{-8}, 22, 48, []int{0, 2, 3}},
		{[]int{24}, []int{24}, 16, 43, []int{1, 2, 3}},
		{[]int{1023}, []int{1023}, 11, 38, []int{0, 1, 2, 3}},
	} {
		s := sample{info: stream(2, x.width, 44100), planes: [][]int{x.a, x.b}}
		var ties []int
		for mode := range 4 {
			if _, n := modeModel(mode, s.planes, x.width, 1); n == x.bits {
				ties = append(ties, mode)
			}
		}
		if !slices.Equal(ties, x.modes) {
			t.Errorf("%v, %v: %d bits have the modes %v, not %v", x.a, x.b, x.bits, ties, x.modes)
		}
		if f := isFrame(t, s, 1); f.Mode != x.modes[0] {
			t.Errorf("%v, %v: mode %d, not %d", x.a, x.b, f.Mode, x.modes[0])
		}
		if f := isFrame(t, s, 0); f.Mode != api.ModeAlone {
			t.Errorf("%v, %v: mode %d at level 0", x.a, x.b, f.Mode)
		}
	}
}

// Only two channels have another mode than ModeAlone, however alike channels are.
func TestModesOfOtherCounts(t *testing.T) {
	for channels := 1; channels <= 8; channels++ {
		s := sample{info: stream(channels, 16, 44100)}
		for range channels {
			s.planes = append(s.planes, simple(1, 60).planes[0])
		}
		for level := range 3 {
			f := isFrame(t, s, level)
			if alone := f.Mode == api.ModeAlone; alone != (channels != 2 || level == 0) {
				t.Errorf("%d channels, level %d: mode %d", channels, level, f.Mode)
			}
		}
	}
}

// Samples of all sorts against the chapter's words, each at all levels.
func TestFrames(t *testing.T) {
	r := numbers(1232)
	var modes [4]int
	for i := range 4000 {
		channels := 1 + r.below(8)
		if i%2 == 0 {
			channels = 2
		}
		s := r.sampleOf(channels, 1+r.below(40))
		for level := range 3 {
			f := isFrame(t, s, level)
			modes[f.Mode]++
		}
	}
	for _, size := range []int{192, 256, 257, 576, 1152, 4096, 4608} {
		for level := range 3 {
			isFrame(t, r.sampleOf(2, size), level)
			isFrame(t, r.sampleOf(1+r.below(3), size), level)
		}
	}
	if slices.Min(modes[:]) < 300 {
		t.Errorf("modes: %v", modes)
	}
}

// Samples at the edges of a width, whose difference needs a bit more.
func TestAllPairs(t *testing.T) {
	for _, width := range []int{4, 5, 24} {
		var ends []int
		for n := range 8 {
			ends = append(ends, n-power(width-1), power(width-1)-1-n, n-4)
		}
		s := sample{info: stream(2, width, 8000), planes: [][]int{{}, {}}}
		for _, a := range ends {
			for _, b := range ends {
				s.planes[0], s.planes[1] = append(s.planes[0], a), append(s.planes[1], b)
				one := sample{s.info, 0, [][]int{{a}, {b}}}
				isFrame(t, one, 1)
			}
		}
		for level := range 3 {
			isFrame(t, s, level)
		}
	}
}
