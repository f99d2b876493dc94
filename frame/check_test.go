package frame_test

import (
	"math"
	"slices"
	"testing"

	"lacquer/api"
)

// Promise 11.1.

// isOf fails, unless Check takes just those numbers of the list that are right, each put into a frame and a stream that may be otherwise.
func isOf(t *testing.T, right, wrong []int, put func(*sample, int), base sample) {
	t.Helper()
	for i, n := range slices.Concat(right, wrong) {
		s, want := base, api.OK
		if i >= len(right) {
			want = api.ErrRecipe
		}
		put(&s, n)
		isCheck(t, s.frame, s.info, want)
	}
}

// far are numbers that are far from all that may be.
func far(more ...int) []int {
	return append(more, math.MinInt, math.MinInt+1, -1<<32, -65536, -256, 1<<32+1, 1<<40, math.MaxInt-1, math.MaxInt)
}

func TestExampleOfCheck(t *testing.T) {
	f := api.Frame{Size: 16, SizeCode: 6, RateCode: 4, WidthCode: 1, Subs: []api.Sub{{}}}
	isCheck(t, f, stream(1, 8, 8000), api.OK)
	isCheck(t, f, stream(1, 8, 44100), api.ErrRecipe)
	isCheck(t, f, stream(1, 16, 8000), api.ErrRecipe)
	isCheck(t, f, stream(2, 8, 8000), api.ErrRecipe)
}

func TestStreamsOfCheck(t *testing.T) {
	base := simple(1, 16)
	base.frame.RateCode, base.frame.WidthCode = 0, 0
	isOf(t, []int{1, 2, 3, 4, 5, 6, 7, 8}, []int{-8, -1, 0, 9, 10, 16, 256}, func(s *sample, n int) {
		s.info.Channels = n
		s.frame.Subs = verbatim(n)
	}, base)
	isOf(t, []int{1}, far(-8, -1, 0, 2, 8, 9), func(s *sample, n int) { s.info.Channels = n }, base)
	var widths []int
	for n := 4; n <= 24; n++ {
		widths = append(widths, n)
	}
	isOf(t, widths, far(-4, -1, 0, 1, 2, 3, 25, 26, 32, 33, 64), func(s *sample, n int) { s.info.Width = n }, base)
	isOf(t, []int{1, 2, 44100, 655350, 655351, math.MaxInt}, []int{math.MinInt, -44100, -1, 0}, func(s *sample, n int) { s.info.Rate = n }, base)
}

// What else a stream says plays no part.
func TestWhatElseAStreamSays(t *testing.T) {
	s := simple(2, 16)
	s.info.MinBlock, s.info.MaxBlock, s.info.MinFrame, s.info.MaxFrame = 4096, 15, 100000, -1
	s.info.Samples, s.info.Digest = 3, "no digest"
	isCheck(t, s.frame, s.info, api.OK)
	isBuild(t, s, textOf(s))
	isParse(t, textOf(s), s)
}

func TestSizesOfCheck(t *testing.T) {
	size := func(s *sample, n int) { s.frame.Size = n }
	for code := -1; code <= 17; code++ {
		base := simple(1, 16)
		base.frame.SizeCode = code
		for _, n := range []int{0, 1, 2, 15, 16, 191, 192, 193, 255, 256, 257, 512, 576, 1024, 1152, 2048, 2304, 4096, 4607, 4608, 4609, 8192, 16384, 32768, 65535, 65536, 65537} {
			want := api.ErrRecipe
			if n >= 1 && n <= 4608 && saysSize(code, n) {
				want = api.OK
			}
			s := base
			size(&s, n)
			isCheck(t, s.frame, s.info, want)
		}
		isOf(t, nil, far(-1), size, base)
	}
	base := simple(1, 16)
	isOf(t, []int{1, 2, 4607, 4608}, []int{-1, 0, 4609, 65535, 65536}, size, base)
	base.frame.SizeCode = 6
	isOf(t, []int{1, 2, 255, 256}, []int{-1, 0, 257, 258, 4608}, size, base)
}

func TestSizeCodesOfCheck(t *testing.T) {
	code := func(s *sample, n int) { s.frame.SizeCode = n }
	isOf(t, []int{6, 7}, far(-1, 0, 1, 2, 3, 4, 5, 8, 9, 10, 11, 12, 13, 14, 15, 16, 17, 22, 23), code, simple(1, 16))
	isOf(t, []int{7, 5}, far(-1, 0, 1, 2, 3, 4, 6, 8, 9, 10, 11, 12, 13, 14, 15, 16, 21), code, simple(1, 4608))
	isOf(t, []int{6, 7, 8}, far(-1, 0, 1, 2, 5, 9, 15, 16, 24), code, simple(1, 256))
	isOf(t, []int{7, 12}, far(-1, 0, 5, 6, 8, 11, 13, 15, 16, 28), code, simple(1, 4096))
	// Codes of sizes that no frame here has.
	isOf(t, nil, []int{13, 7, 0, 16}, code, simple(1, 8192))
	isOf(t, nil, []int{15, 7, 0, 16}, code, simple(1, 32768))
}

func TestRateCodesOfCheck(t *testing.T) {
	rates := []int{1, 2, 9, 10, 999, 1000, 1001, 8000, 16000, 22050, 24000, 32000, 44100, 48000, 65534, 65535, 65536, 65540, 88200, 96000,
		176400, 192000, 254000, 255000, 255001, 255010, 256000, 655340, 655350, 655351, 655360, 1 << 24, 8000 + 1<<16, 256000 * 10, math.MaxInt}
	for code := -2; code <= 20; code++ {
		for _, rate := range rates {
			s := simple(2, 16)
			s.frame.RateCode, s.info.Rate = code, rate
			want := api.ErrRecipe
			if saysRate(code, rate) {
				want = api.OK
			}
			isCheck(t, s.frame, s.info, want)
		}
	}
	rate := func(code int) func(*sample, int) {
		return func(s *sample, n int) { s.frame.RateCode, s.info.Rate = code, n }
	}
	isOf(t, []int{1000, 8000, 44000, 255000}, []int{0, 1, 255, 999, 1001, 44100, 255001, 256000, 512000, 1000 << 8}, rate(12), simple(1, 16))
	isOf(t, []int{1, 10, 44100, 65535}, []int{0, -1, 65536, 65537, 88200, 44100 + 1<<16}, rate(13), simple(1, 16))
	isOf(t, []int{10, 44100, 65540, 655350}, []int{0, -10, 1, 9, 11, 44101, 655351, 655360, 10 << 16}, rate(14), simple(1, 16))
	isOf(t, nil, []int{0, 1, 8000, 44100, 96000, 192000}, rate(15), simple(1, 16))
	isOf(t, nil, far(-1, 15, 16, 25), func(s *sample, n int) { s.frame.RateCode = n }, simple(1, 16))
}

func TestWidthCodesOfCheck(t *testing.T) {
	for code := -2; code <= 10; code++ {
		for width := 3; width <= 25; width++ {
			s := simple(1, 16)
			s.frame.WidthCode, s.info.Width = code, width
			want := api.ErrRecipe
			if width >= 4 && width <= 24 && saysWidth(code, width) {
				want = api.OK
			}
			isCheck(t, s.frame, s.info, want)
		}
	}
	isOf(t, []int{0, 4}, far(-1, 1, 2, 3, 5, 6, 7, 8, 12), func(s *sample, n int) { s.frame.WidthCode = n }, simple(1, 16))
}

func TestNumbersOfCheck(t *testing.T) {
	put := func(s *sample, n int) { s.frame.Number = n }
	base := simple(1, 16)
	isOf(t, []int{0, 1, 127, 128, 1<<31 - 2, 1<<31 - 1}, []int{math.MinInt, -1 << 31, -1, 1 << 31, 1<<31 + 1, 1 << 32, 1<<36 - 1, 1 << 36, math.MaxInt}, put, base)
	base.frame.Variable = true
	isOf(t, []int{0, 1, 1<<31 - 1, 1 << 31, 1<<36 - 2, 1<<36 - 1}, []int{math.MinInt, -1 << 36, -1, 1 << 36, 1<<36 + 1, 1 << 37, math.MaxInt}, put, base)
}

func TestModesOfCheck(t *testing.T) {
	mode := func(s *sample, n int) { s.frame.Mode = n }
	wrong := far(-2, -1, 4, 5, 8, 9, 10, 11)
	for channels := 1; channels <= 8; channels++ {
		if channels == 2 {
			isOf(t, []int{0, 1, 2, 3}, wrong, mode, simple(2, 16))
		} else {
			isOf(t, []int{0}, append(wrong, 1, 2, 3), mode, simple(channels, 16))
		}
	}
	// A mode has two channels, whatever the stream has.
	for _, channels := range []int{1, 3, 8} {
		for n := 1; n <= 3; n++ {
			s := simple(channels, 16)
			s.frame.Mode, s.frame.Subs = n, verbatim(2)
			isCheck(t, s.frame, s.info, api.ErrRecipe)
		}
	}
}

func TestCountsOfSubs(t *testing.T) {
	for channels := 1; channels <= 8; channels++ {
		for count := range 12 {
			s := simple(channels, 16)
			s.frame.Subs = verbatim(count)
			want := api.ErrRecipe
			if count == channels {
				want = api.OK
			}
			isCheck(t, s.frame, s.info, want)
		}
	}
	for mode := 1; mode <= 3; mode++ {
		for _, count := range []int{0, 1, 3} {
			s := simple(2, 16)
			s.frame.Mode, s.frame.Subs = mode, verbatim(count)
			isCheck(t, s.frame, s.info, api.ErrRecipe)
		}
	}
}

// A Sub that may not be, at each channel; the wasted bits tell how wide its channel is.
func TestSubsThatMayNotBe(t *testing.T) {
	wrong := []api.Sub{{Kind: 4}, {Kind: -1}, {Order: 1}, {Kind: api.SubFixed}, {Kind: api.SubLpc}, {Wasted: -1}, {Wasted: 16}, {Wasted: math.MaxInt}}
	for channels := 1; channels <= 8; channels++ {
		for c := range channels {
			for _, sub := range wrong {
				s := simple(channels, 16)
				s.frame.Subs[c] = sub
				isCheck(t, s.frame, s.info, api.ErrRecipe)
			}
			s := simple(channels, 16)
			s.frame.Subs[c].Wasted = 15
			isCheck(t, s.frame, s.info, api.OK)
		}
	}
}

func TestWidthsOfSubs(t *testing.T) {
	for width := 4; width <= 24; width++ {
		for mode := range 4 {
			for c := range 2 {
				for wasted := range 28 {
					s := simple(2, 16)
					s.info.Width, s.frame.WidthCode, s.frame.Mode = width, 0, mode
					s.frame.Subs[c].Wasted = wasted
					want := api.OK
					if wasted >= widthOf(mode, c, width) {
						want = api.ErrRecipe
					}
					isCheck(t, s.frame, s.info, want)
				}
			}
		}
	}
}

// A Sub hangs on the frame's Size.
func TestBlocksOfSubs(t *testing.T) {
	one := api.Rice{Params: []int{0}, Escapes: []int{-1}}
	for size := 1; size <= 6; size++ {
		for order := range 6 {
			s := simple(1, size)
			s.frame.Subs = []api.Sub{{Kind: api.SubFixed, Order: order, Rice: one}}
			want := api.OK
			if order > 4 || order > size {
				want = api.ErrRecipe
			}
			isCheck(t, s.frame, s.info, want)
		}
	}
	two := api.Rice{Order: 1, Params: []int{0, 0}, Escapes: []int{-1, -1}}
	for size := 1; size <= 300; size++ {
		s := simple(1, size)
		s.frame.Subs = []api.Sub{{Kind: api.SubFixed, Rice: two}}
		want := api.OK
		if size%2 == 1 {
			want = api.ErrRecipe
		}
		isCheck(t, s.frame, s.info, want)
	}
}

// Made up frames, each with a thing or two changed.
func TestMadeUpFramesOfCheck(t *testing.T) {
	r := numbers(1111)
	taken := 0
	for range 20000 {
		s := r.sample()
		isCheck(t, s.frame, s.info, api.OK)
		for range 1 + r.below(2) {
			r.change(&s)
		}
		want := checkModel(s.frame, s.info)
		isCheck(t, s.frame, s.info, want)
		if want == api.OK {
			taken++
		}
	}
	if taken < 500 {
		t.Errorf("%d alone were taken", taken)
	}
}

// change makes something of a frame or its stream another one.
func (r *numbers) change(s *sample) {
	by := r.below(5) - 2
	switch r.below(12) {
	case 0:
		s.frame.Size += by
	case 1:
		s.frame.SizeCode = r.below(18) - 1
	case 2:
		s.frame.RateCode = r.below(18) - 1
	case 3:
		s.frame.WidthCode = r.below(10) - 1
	case 4:
		s.frame.Mode = r.below(6) - 1
	case 5:
		s.frame.Number += by * power(r.below(37))
	case 6:
		s.frame.Variable = !s.frame.Variable
	case 7:
		s.frame.Subs = s.frame.Subs[:r.below(len(s.frame.Subs)+1)]
	case 8:
		s.frame.Subs = append(slices.Clone(s.frame.Subs), verbatim(r.below(2))...)
	case 9:
		s.info.Channels += by
	case 10:
		s.info.Width += by
	case 11:
		s.info.Rate += by * []int{1, 10, 1000, 65536}[r.below(4)]
	}
}
