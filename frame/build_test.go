package frame_test

import (
	"math"
	"slices"
	"testing"

	"lacquer/api"
)

// Promise 11.2.

// example is the chapter's.
func example() sample {
	return sample{
		frame:  api.Frame{Size: 16, SizeCode: 6, RateCode: 4, WidthCode: 1, Subs: []api.Sub{{}}},
		info:   stream(1, 8, 8000),
		planes: [][]int{make([]int, 16)},
	}
}

// exampleText is its bytes, the sums worked out by hand.
const exampleText = "\xff\xf8\x64\x02\x00\x0f\x49\x00\x00\xfb\xea"

// wide is two channels that are as far apart as can be, in ModeMid, with a Number of four bytes.
func wide() sample {
	return sample{
		frame:  api.Frame{Variable: true, Number: 70000, Size: 2, SizeCode: 7, Mode: api.ModeMid, Subs: verbatim(2)},
		info:   stream(2, 16, 44100),
		planes: [][]int{{32767, -3}, {-32768, 4}},
	}
}

// wideText is its bytes, likewise.
const wideText = "\xff\xf9\x70\xa0\xf0\x91\x85\xb0\x00\x01\xf7\x02\xff\xff\x00\x00\x02\x7f\xff\xff\xfe\x40\xb5\x44"

func TestExampleOfBuild(t *testing.T) {
	isBuild(t, example(), exampleText)
	isBuild(t, wide(), wideText)
	if textOf(example()) != exampleText || textOf(wide()) != wideText {
		t.Error("the model says otherwise")
	}
}

func TestChannelsOfBuild(t *testing.T) {
	for channels := 1; channels <= 8; channels++ {
		for _, size := range []int{1, 2, 16, 192, 4608} {
			s := simple(channels, size)
			isBuild(t, s, textOf(s))
		}
	}
}

func TestModesOfBuild(t *testing.T) {
	for mode := range 4 {
		for width := 4; width <= 24; width++ {
			s := simple(2, 9)
			most := power(width-1) - 1
			s.frame.Mode, s.frame.WidthCode, s.info.Width = mode, 0, width
			s.planes = [][]int{{0, 1, -1, 3, most, -most - 1, most, -most - 1, 2}, {0, 0, 0, -2, -most - 1, most, most, -most - 1, -1}}
			isBuild(t, s, textOf(s))
		}
	}
}

func TestSizeCodesOfBuild(t *testing.T) {
	for code := 1; code <= 12; code++ {
		size := sizeCodes[code]
		if code == 6 || code == 7 {
			size = 200
		}
		s := simple(2, size)
		s.frame.SizeCode = code
		isBuild(t, s, textOf(s))
	}
	for _, size := range []int{1, 2, 255, 256} {
		s := simple(1, size)
		s.frame.SizeCode = 6
		isBuild(t, s, textOf(s))
	}
	for _, size := range []int{1, 256, 257, 4607, 4608} {
		s := simple(1, size)
		isBuild(t, s, textOf(s))
	}
}

func TestRateCodesOfBuild(t *testing.T) {
	for code := range 12 {
		s := simple(1, 3)
		s.frame.RateCode, s.info.Rate = code, max(rateCodes[code], 1)
		isBuild(t, s, textOf(s))
	}
	for code, rates := range map[int][]int{0: {1, 44100, math.MaxInt}, 12: {1000, 44000, 255000}, 13: {1, 255, 256, 65535}, 14: {10, 44100, 655350}} {
		for _, rate := range rates {
			s := simple(1, 3)
			s.frame.RateCode, s.info.Rate = code, rate
			isBuild(t, s, textOf(s))
			// With a size behind Number in one byte, too.
			s.frame.SizeCode = 6
			isBuild(t, s, textOf(s))
		}
	}
}

func TestWidthCodesOfBuild(t *testing.T) {
	for code, width := range widthCodes {
		for _, code := range []int{0, code} {
			s := simple(1, 2)
			s.frame.WidthCode, s.info.Width = code, width
			s.planes = [][]int{{-power(width - 1), power(width-1) - 1}}
			isBuild(t, s, textOf(s))
		}
	}
}

func TestNumbersOfBuild(t *testing.T) {
	for _, variable := range []bool{false, true} {
		for bit := range 37 {
			for _, n := range []int{power(bit) - 1, power(bit)} {
				s := simple(1, 2)
				s.frame.Variable, s.frame.Number = variable, n
				if n < power(31) || variable && n < power(36) {
					isBuild(t, s, textOf(s))
				} else {
					isNoBuild(t, s)
				}
			}
		}
	}
}

// What Check refuses is refused, with planes that are right and with others.
func TestCheckOfBuild(t *testing.T) {
	r := numbers(1121)
	refused := 0
	for range 5000 {
		s := r.sample()
		r.change(&s)
		if checkModel(s.frame, s.info) != api.OK {
			isNoBuild(t, s)
			s.planes = s.planes[1:]
			isNoBuild(t, s)
			refused++
		}
	}
	if refused < 500 {
		t.Errorf("%d alone were refused", refused)
	}
	for _, i := range []api.StreamInfo{{}, stream(0, 16, 44100), stream(-1, 16, 44100), stream(9, 16, 44100)} {
		isNoBuild(t, sample{api.Frame{Size: 1, SizeCode: 6, Subs: verbatim(i.Channels)}, i, slices.Repeat([][]int{{0}}, max(i.Channels, 0))})
	}
}

func TestCountsOfPlanes(t *testing.T) {
	for channels := 1; channels <= 8; channels++ {
		for count := range 11 {
			s := simple(channels, 16)
			s.planes = simple(count, 16).planes
			if count == channels {
				isBuild(t, s, textOf(s))
			} else {
				isNoBuild(t, s)
			}
		}
	}
	for mode := 1; mode <= 3; mode++ {
		for _, count := range []int{0, 1, 3} {
			s := simple(2, 16)
			s.frame.Mode, s.planes = mode, simple(count, 16).planes
			isNoBuild(t, s)
		}
	}
}

// Planes that are too short or too long, at each channel and in each mode; also where all are as long.
func TestLengthsOfPlanes(t *testing.T) {
	for channels := 1; channels <= 8; channels++ {
		for mode := range 4 {
			if mode > 0 && channels != 2 {
				continue
			}
			for _, size := range []int{0, 1, 15, 17, 18, 32} {
				all := simple(channels, 16)
				all.frame.Mode = mode
				for c := range channels {
					s := all
					s.planes = slices.Clone(s.planes)
					s.planes[c] = make([]int, size)
					isNoBuild(t, s)
				}
				all.planes = simple(channels, size).planes
				isNoBuild(t, all)
			}
			s := simple(channels, 16)
			s.frame.Mode = mode
			s.planes[channels-1] = nil
			isNoBuild(t, s)
		}
	}
}

// The least and the greatest sample, and one past either, at each channel, in each mode.
func TestSamplesOfBuild(t *testing.T) {
	for _, channels := range []int{1, 2, 3, 8} {
		for mode := range 4 {
			if mode > 0 && channels != 2 {
				continue
			}
			for width := 4; width <= 24; width++ {
				half := power(width - 1)
				for c := range channels {
					for _, n := range []int{-half, half - 1, -half - 1, half, 2 * half, -2 * half, math.MinInt, math.MaxInt, 1 << 41, 1 << 32} {
						s := simple(channels, 5)
						s.frame.Mode, s.frame.WidthCode, s.info.Width = mode, 0, width
						s.planes = nil
						for range channels {
							s.planes = append(s.planes, make([]int, 5))
						}
						s.planes[c][3] = n
						if within(n, width) {
							isBuild(t, s, textOf(s))
						} else {
							isNoBuild(t, s)
						}
					}
				}
			}
		}
	}
}

// A sample that is too great is refused also where each channel that the mode tells of it would be small enough.
func TestSamplesThatAModeMakesSmall(t *testing.T) {
	for mode := range 4 {
		s := simple(2, 1)
		s.frame.Mode = mode
		s.planes = [][]int{{32768}, {32768}}
		isNoBuild(t, s)
		s.planes = [][]int{{-32769}, {-32768}}
		isNoBuild(t, s)
		s.planes = [][]int{{32767}, {32768}}
		isNoBuild(t, s)
	}
}

// Samples that a Sub can't tell: of those behind Stereo, not of the planes.
func TestSamplesThatASubCannotTell(t *testing.T) {
	s := simple(1, 3)
	s.frame.Subs = []api.Sub{{Kind: api.SubConstant}}
	s.planes = [][]int{{4, 4, 5}}
	isNoBuild(t, s)
	s.planes = [][]int{{4, 4, 4}}
	isBuild(t, s, textOf(s))
	s.frame.Subs = []api.Sub{{Kind: api.SubVerbatim, Wasted: 1}}
	s.planes = [][]int{{4, 4, 5}}
	isNoBuild(t, s)
	s.frame.Subs = []api.Sub{{Kind: api.SubFixed, Rice: api.Rice{Params: []int{0}, Escapes: []int{2}}}}
	s.planes = [][]int{{-2, 1, 2}}
	isNoBuild(t, s)
	s.planes = [][]int{{-2, 1, 0}}
	isBuild(t, s, textOf(s))

	s = simple(2, 3)
	s.frame.Subs = []api.Sub{{Kind: api.SubVerbatim}, {Kind: api.SubConstant}}
	s.planes = [][]int{{1, 2, 3}, {0, 1, 2}}
	isNoBuild(t, s)
	s.frame.Mode = api.ModeLeft
	isBuild(t, s, textOf(s))
	s.frame.Mode = api.ModeMid
	isBuild(t, s, textOf(s))
	s.frame.Mode = api.ModeRight
	isNoBuild(t, s)
	slices.Reverse(s.frame.Subs)
	isBuild(t, s, textOf(s))
	s.planes[1][2] = 3
	isNoBuild(t, s)
	// The last of eight.
	s = simple(8, 3)
	s.frame.Subs[7].Kind = api.SubConstant
	isNoBuild(t, s)
}

func TestMadeUpFramesOfBuild(t *testing.T) {
	r := numbers(1122)
	for range 3000 {
		s := r.sample()
		isBuild(t, s, textOf(s))
		// Another sample may be none that the Sub can tell.
		l := s.planes[r.below(len(s.planes))]
		l[r.below(len(l))] += r.signed(s.info.Width)
		if b, e := buildModel(s); e == api.OK {
			isBuild(t, s, b.text())
		} else {
			isNoBuild(t, s)
		}
	}
}
