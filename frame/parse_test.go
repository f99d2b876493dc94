package frame_test

import (
	"fmt"
	"slices"
	"strings"
	"testing"

	"lacquer/api"
	"lacquer/bytes"
	"lacquer/frame"
	"lacquer/sums"
)

// Promise 11.3.

func TestExampleOfParse(t *testing.T) {
	isParse(t, exampleText, example())
	isParse(t, wideText, wide())
}

// Each code, with each mode and count of channels, fixed and Variable, in streams that it says and in others; the sums are right.
func TestAllCodesOfParse(t *testing.T) {
	streams := []api.StreamInfo{stream(1, 8, 8000), stream(2, 16, 44100), stream(2, 24, 192000), stream(8, 12, 65000), stream(3, 20, 96000), stream(2, 5, 655350), {}}
	var told, unsupported int
	for codes := range 1 << 15 {
		for variable, i := range streams {
			r := raw{sync: 16382, variable: variable % 2, sizeCode: codes >> 11, rateCode: codes >> 7 & 15, channels: codes >> 3 & 15, widthCode: codes & 7, number: "\x05", fill: "0"}
			size := 3
			if r.sizeCode != 6 && r.sizeCode != 7 {
				size = sizeCodes[r.sizeCode]
			}
			r.behind(size, i.Rate)
			// Constant subframes of 0, with no wasted bits.
			for c := range i.Channels {
				r.body += strings.Repeat("0", 8+widthOf(max(r.channels-7, 0), c, i.Width))
			}
			switch isParseAsModel(t, r.text(), i) {
			case api.OK:
				told++
			case api.ErrUnsupported:
				unsupported++
			}
		}
	}
	if told < 200 || unsupported < 3*2048*len(streams) {
		t.Errorf("%d alone were told, %d unsupported", told, unsupported)
	}
}

// The codes that are against the chapter, one by one.
func TestCodesThatAreNone(t *testing.T) {
	for channels := 1; channels <= 8; channels++ {
		s := simple(channels, 16)
		base := rawOf(s)
		isParse(t, base.text(), s)
		changes := map[string]func(*raw){"SizeCode 0": func(r *raw) { r.sizeCode, r.size = 0, "" }, "RateCode 15": func(r *raw) { r.rateCode = 15 }}
		for _, code := range []int{3, 7} {
			changes[fmt.Sprint("WidthCode ", code)] = func(r *raw) { r.widthCode = code }
		}
		for code := 11; code <= 15; code++ {
			changes[fmt.Sprint("channels ", code)] = func(r *raw) { r.channels = code }
		}
		for name, change := range changes {
			r := base
			change(&r)
			if _, _, _, e := frame.Parse(r.text(), s.info); e != api.ErrMalformed {
				t.Errorf("%s: error %d", name, e)
			}
			isNoParse(t, r.text(), s.info, api.ErrMalformed)
		}
	}
}

// Each bit of the sync and both bits 0, turned.
func TestBitsThatMustBeSo(t *testing.T) {
	for _, s := range []sample{example(), wide(), simple(8, 16)} {
		for bit := range 14 {
			r := rawOf(s)
			r.sync ^= 1 << bit
			isNoParse(t, r.text(), s.info, api.ErrMalformed)
		}
		r := rawOf(s)
		r.zero = 1
		isNoParse(t, r.text(), s.info, api.ErrMalformed)
		r = rawOf(s)
		r.last = 1
		isNoParse(t, r.text(), s.info, api.ErrMalformed)
	}
}

// Bytes that end at each place; and what is cut off, given sums that are right for it.
func TestEndsOfParse(t *testing.T) {
	r := numbers(1131)
	row := []sample{example(), wide(), simple(1, 1), simple(8, 40), simple(2, 300)}
	for range 60 {
		row = append(row, r.sample())
	}
	for _, s := range row {
		text := textOf(s)
		for n := range len(text) {
			isNoParse(t, text[:n], s.info, api.ErrMalformed)
		}
		head := len(rawOf(s).head())
		for n := head + 1; n < len(text)-2; n++ {
			cut := text[:n]
			isNoParse(t, cut+packed(digits(sums.Crc16(cut), 16)), s.info, api.ErrMalformed)
		}
	}
}

// A head that ends, where what stands last is just the Crc8 of what is ahead of it; and of sizes above the limit this is still the first that is seen.
func TestHeadsThatEndWithASum(t *testing.T) {
	for sizeCode := range 16 {
		for rateCode := range 16 {
			for _, big := range []int{16, 5000} {
				s := simple(1, 16)
				s.frame.SizeCode, s.frame.RateCode = sizeCode, rateCode
				r := rawHead(s.frame, s.info)
				r.behind(big, s.info.Rate)
				whole := r.head()
				for n := range len(whole) {
					cut := whole[:n]
					isNoParse(t, cut+packed(digits(sums.Crc8(cut), 8)), s.info, api.ErrMalformed)
				}
			}
		}
	}
}

// Numbers that are not Coded: too many bytes, a first byte that is none, a byte behind it that is none.
func TestNumbersThatAreNotCoded(t *testing.T) {
	wrong := []string{"\x80", "\xbf", "\xff", "\xc0\x80", "\xc1\xbf", "\xc2\x00", "\xc2\xc0", "\xe0\x80\x80", "\xe0\x9f\xbf", "\xf0\x80\x80\x80", "\xfc\x83\xbf\xbf\xbf\xbf",
		"\xfe\x80\x80\x80\x80\x80\x80", "\xfe\x81\xbf\xbf\xbf\xbf\xbf", "\xfe\xbf\xbf\xbf\xbf\xbf\x00"}
	for _, variable := range []int{0, 1} {
		for _, number := range wrong {
			for _, s := range []sample{example(), wide(), simple(3, 20)} {
				r := rawOf(s)
				r.variable, r.number = variable, number
				isNoParse(t, r.text(), s.info, api.ErrMalformed)
			}
		}
	}
}

func TestNumbersOfParse(t *testing.T) {
	for _, variable := range []bool{false, true} {
		for _, n := range []int{0, 1, 127, 128, 1<<11 - 1, 1 << 11, 1<<16 - 1, 1 << 16, 1<<21 - 1, 1 << 21, 1 << 26, 1<<31 - 1, 1 << 31, 1<<31 + 1, 1 << 35, 1<<36 - 1} {
			s := simple(1, 4)
			s.frame.Variable, s.frame.Number = variable, n
			r := rawOf(simple(1, 4))
			r.number, _ = bytes.Coded(n)
			if variable {
				r.variable = 1
			}
			if variable || n <= 1<<31-1 {
				isParse(t, r.text(), s)
			} else {
				isNoParse(t, r.text(), s.info, api.ErrMalformed)
			}
		}
	}
}

func TestSizesOfParse(t *testing.T) {
	for _, size := range []int{1, 2, 255, 256, 257, 4607, 4608} {
		s := simple(1, size)
		isParse(t, textOf(s), s)
		if size <= 256 {
			s.frame.SizeCode = 6
			isParse(t, textOf(s), s)
		}
	}
	for _, size := range []int{4609, 4610, 8192, 65535, 65536} {
		r := rawOf(simple(1, 16))
		r.size = digits(size-1, 16)
		isNoParse(t, r.text(), stream(1, 16, 44100), api.ErrUnsupported)
	}
	for code := 1; code <= 15; code++ {
		s := simple(1, 3)
		if code != 6 && code != 7 {
			s = simple(1, sizeCodes[code])
		}
		s.frame.SizeCode = code
		if s.frame.Size > 4608 {
			isNoParse(t, rawHead(s.frame, s.info).text(), s.info, api.ErrUnsupported)
		} else {
			isParse(t, textOf(s), s)
		}
	}
}

func TestRatesOfParse(t *testing.T) {
	for code, rate := range rateCodes {
		s := simple(1, 3)
		s.frame.RateCode, s.info.Rate = code, rate
		isParse(t, textOf(s), s)
		for _, other := range []int{1, rate - 1, rate + 1, rate * 2, 0, -rate} {
			isNoParse(t, textOf(s), stream(1, 16, other), api.ErrMalformed)
		}
	}
	for code, rates := range map[int][]int{0: {1, 44101, 1 << 40}, 12: {1000, 255000}, 13: {1, 44100, 65535}, 14: {10, 44100, 655350}} {
		for _, rate := range rates {
			s := simple(1, 3)
			s.frame.RateCode, s.info.Rate = code, rate
			isParse(t, textOf(s), s)
			for _, other := range []int{rate + 1, rate - 1, rate * 10, rate * 1000} {
				if code != 0 {
					isNoParse(t, textOf(s), stream(1, 16, other), api.ErrMalformed)
				}
			}
		}
	}
	// A rate of 0 behind Number is no stream's.
	for code, width := range map[int]int{12: 8, 13: 16, 14: 16} {
		r := rawOf(simple(1, 3))
		r.rateCode, r.rate = code, strings.Repeat("0", width)
		for _, rate := range []int{0, 1, 44100} {
			isNoParse(t, r.text(), stream(1, 16, rate), api.ErrMalformed)
		}
	}
}

func TestWidthsOfParse(t *testing.T) {
	for width := 4; width <= 24; width++ {
		for code := range 7 {
			if !saysWidth(code, width) {
				continue
			}
			s := simple(1, 2)
			s.frame.WidthCode, s.info.Width = code, width
			s.planes = [][]int{{-power(width - 1), power(width-1) - 1}}
			isParse(t, textOf(s), s)
			for other := 3; other <= 25; other++ {
				if code != 0 && other != width {
					isNoParse(t, textOf(s), stream(1, other, 44100), api.ErrMalformed)
				}
			}
		}
	}
}

// Another Crc8, another Crc16: each bit of them, and all.
func TestSumsOfParse(t *testing.T) {
	for _, s := range []sample{example(), wide(), simple(8, 16)} {
		for spoil := 1; spoil < 256; spoil++ {
			r := rawOf(s)
			r.spoil8 = spoil
			isNoParse(t, r.text(), s.info, api.ErrMalformed)
		}
		for bit := range 16 {
			r := rawOf(s)
			r.spoil16 = 1 << bit
			isNoParse(t, r.text(), s.info, api.ErrMalformed)
		}
		r := rawOf(s)
		r.spoil16 = 65535
		isNoParse(t, r.text(), s.info, api.ErrMalformed)
		// The lowest byte first.
		text := textOf(s)
		n := len(text)
		isNoParse(t, text[:n-2]+text[n-1:]+text[n-2:n-1], s.info, api.ErrMalformed)
	}
}

// Each bit of a frame, turned: if nothing else does, the sums tell it.
func TestEachBitTurned(t *testing.T) {
	r := numbers(1132)
	row := []sample{example(), wide()}
	for range 60 {
		row = append(row, r.sampleOf(1+r.below(8), 1+r.below(20)))
	}
	for _, s := range row {
		text := textOf(s)
		for bit := range 8 * len(text) {
			b := []byte(text)
			b[bit/8] ^= 128 >> (bit % 8)
			isNoParse(t, string(b)+"behind", s.info, api.ErrMalformed)
		}
	}
}

// A stream that may not have frames; and frames of other streams.
func TestStreamsOfParse(t *testing.T) {
	for _, s := range []sample{example(), wide(), simple(8, 16)} {
		s.frame.RateCode, s.frame.WidthCode = 0, 0
		text := textOf(s)
		isParse(t, text, s)
		for _, channels := range []int{-1, 0, 1, 2, 3, 7, 8, 9, 10} {
			if channels != s.info.Channels {
				isNoParse(t, text, stream(channels, s.info.Width, s.info.Rate), api.ErrMalformed)
			}
		}
		for _, width := range far(-1, 0, 1, 3, 25, 26, 32, 33) {
			isNoParse(t, text, stream(s.info.Channels, width, s.info.Rate), api.ErrMalformed)
		}
		for _, rate := range []int{0, -1, -44100} {
			isNoParse(t, text, stream(s.info.Channels, s.info.Width, rate), api.ErrMalformed)
		}
		isNoParse(t, text, api.StreamInfo{}, api.ErrMalformed)
	}
	// The narrowest and the widest stream, and past them, with subframes that would be right.
	for _, width := range []int{3, 4, 24, 25} {
		s := simple(1, 1)
		s.frame.WidthCode, s.info.Width, s.planes = 0, width, [][]int{{-1}}
		r := rawHead(s.frame, s.info)
		r.body = "00000010" + strings.Repeat("1", width)
		if width == 3 || width == 25 {
			isNoParse(t, r.text(), s.info, api.ErrMalformed)
		} else {
			isParse(t, r.text(), s)
		}
	}
}

// A mode is of streams with two channels alone.
func TestModesOfParse(t *testing.T) {
	for mode := 1; mode <= 3; mode++ {
		for channels := 1; channels <= 8; channels++ {
			s := simple(channels, 4)
			if channels == 2 {
				s.frame.Mode = mode
				isParse(t, textOf(s), s)
				continue
			}
			r := rawOf(s)
			r.channels = 7 + mode
			isNoParse(t, r.text(), s.info, api.ErrMalformed)
		}
	}
}

// Bits of a subframe that are wrong, at each channel.
func TestSubframesOfParse(t *testing.T) {
	for channels := 1; channels <= 8; channels++ {
		s := simple(channels, 2)
		sub := len(rawOf(s).body) / channels
		for c := range channels {
			for _, wrong := range []string{"10000010", "00000100", "00011010", "00111110", "01000000"} {
				r := rawOf(s)
				r.body = r.body[:c*sub] + wrong + r.body[c*sub+8:]
				isNoParse(t, r.text(), s.info, api.ErrMalformed)
			}
		}
		// One subframe too few.
		r := rawOf(s)
		r.body = r.body[:len(r.body)-sub]
		isNoParse(t, r.text(), s.info, api.ErrMalformed)
	}
}

// Channels that lead beyond the Width behind Unstereo, with subframes that are right by themselves; and such as just do not.
func TestSamplesBeyondTheWidth(t *testing.T) {
	for width := 4; width <= 24; width++ {
		half := power(width - 1)
		for mode := 1; mode <= 3; mode++ {
			for _, a := range []int{-half, -half + 1, -1, 0, 1, half - 2, half - 1} {
				for _, b := range []int{-2 * half, -2*half + 1, -half - 1, -half, -1, 0, 1, half - 1, half, half + 1, 2*half - 2, 2*half - 1} {
					channels := [][]int{{0, a}, {0, b}}
					if mode == api.ModeRight {
						slices.Reverse(channels)
					}
					s := sample{frame: api.Frame{Size: 2, SizeCode: 6, Mode: mode, Subs: verbatim(2)}, info: stream(2, width, 8000), planes: uncoded(mode, channels)}
					r := rawHead(s.frame, s.info)
					for c, l := range channels {
						d, _ := subDigits(s.frame.Subs[c], widthOf(mode, c, width), l)
						r.body += d
					}
					if within(s.planes[0][1], width) && within(s.planes[1][1], width) {
						isParse(t, r.text(), s)
					} else {
						isNoParse(t, r.text(), s.info, api.ErrMalformed)
					}
				}
			}
		}
	}
}

// Bits up to the byte: each of them 1.
func TestBitsUpToTheByte(t *testing.T) {
	for size := 1; size <= 8; size++ {
		s := simple(1, size)
		s.frame.WidthCode, s.info.Width = 0, 5
		s.planes = [][]int{slices.Repeat([]int{-3}, size)}
		left := -len(rawOf(s).body) & 7
		isParse(t, textOf(s), s)
		for bit := range left {
			r := rawOf(s)
			r.body += strings.Repeat("0", bit) + "1" + strings.Repeat("0", left-1-bit)
			isNoParse(t, r.text(), s.info, api.ErrMalformed)
		}
		r := rawOf(s)
		r.fill = "1"
		if left > 0 {
			isNoParse(t, r.text(), s.info, api.ErrMalformed)
		}
		// A byte more behind the subframes is no part of them.
		r = rawOf(s)
		r.body += strings.Repeat("0", left+8)
		isNoParse(t, r.text(), s.info, api.ErrMalformed)
	}
}

// Where a Size above the limit meets another error: ahead of it is only what the head's bits and its Crc8 are.
func TestOrderOfErrors(t *testing.T) {
	sizes := map[string]func(*raw){
		"4609":  func(r *raw) { r.sizeCode, r.size = 7, digits(4608, 16) },
		"65536": func(r *raw) { r.sizeCode, r.size = 7, digits(65535, 16) },
		"13":    func(r *raw) { r.sizeCode, r.size = 13, "" },
		"14":    func(r *raw) { r.sizeCode, r.size = 14, "" },
		"15":    func(r *raw) { r.sizeCode, r.size = 15, "" },
	}
	ahead := map[string]func(*raw){
		"sync":    func(r *raw) { r.sync-- },
		"zero":    func(r *raw) { r.zero = 1 },
		"last":    func(r *raw) { r.last = 1 },
		"Number":  func(r *raw) { r.number = "\x80" },
		"longer":  func(r *raw) { r.number = "\xc0\x80" },
		"another": func(r *raw) { r.spoil8 = 1 },
	}
	behind := map[string]func(*raw){
		"nothing":     func(r *raw) {},
		"RateCode":    func(r *raw) { r.rateCode, r.rate = 15, "" },
		"rate":        func(r *raw) { r.rateCode, r.rate = 10, "" },
		"channels":    func(r *raw) { r.channels = 11 },
		"mode":        func(r *raw) { r.channels = 8 },
		"more":        func(r *raw) { r.channels = 7 },
		"WidthCode 3": func(r *raw) { r.widthCode = 3 },
		"WidthCode 7": func(r *raw) { r.widthCode = 7 },
		"width":       func(r *raw) { r.widthCode = 6 },
		"Number":      func(r *raw) { r.variable, r.number = 0, "\xfe\x82\x80\x80\x80\x80\x80" },
		"subframes":   func(r *raw) { r.body = "1" + r.body[1:] },
		"none":        func(r *raw) { r.body = "" },
		"Crc16":       func(r *raw) { r.spoil16 = 1 },
		"the byte":    func(r *raw) { r.body, r.fill = r.body[1:], "1" },
	}
	for size, grow := range sizes {
		for name, change := range ahead {
			t.Run(size+", ahead: "+name, func(t *testing.T) {
				r := rawOf(simple(1, 16))
				grow(&r)
				change(&r)
				isNoParse(t, r.text(), stream(1, 16, 44100), api.ErrMalformed)
				isNoParse(t, r.text(), api.StreamInfo{}, api.ErrMalformed)
			})
		}
		for name, change := range behind {
			t.Run(size+", behind: "+name, func(t *testing.T) {
				r := rawOf(simple(1, 16))
				change(&r)
				grow(&r)
				for _, i := range []api.StreamInfo{stream(1, 16, 44100), stream(2, 24, 8000), stream(0, 16, 44100), stream(9, 16, 44100), stream(1, 3, 44100), stream(1, 16, 0), {}} {
					isNoParse(t, r.text(), i, api.ErrUnsupported)
				}
				// It ends within the head, or just behind it.
				n := len(r.head())
				isNoParse(t, r.text()[:n], stream(1, 16, 44100), api.ErrMalformed)
				isNoParse(t, r.text()[:n+1], stream(1, 16, 44100), api.ErrUnsupported)
			})
		}
	}
	// SizeCode 0 is malformed whatever else is wrong.
	r := rawOf(simple(1, 16))
	r.sizeCode, r.size, r.rateCode = 0, "", 15
	isNoParse(t, r.text(), stream(1, 16, 44100), api.ErrMalformed)
}

// Made up texts with heads that are often right.
func TestMadeUpTextsOfParse(t *testing.T) {
	r := numbers(1133)
	var seen [4]int
	for range 40000 {
		s := r.sampleOf(1+r.below(3), 1+r.below(12))
		w := rawOf(s)
		for range r.below(3) {
			r.spoil(&w)
		}
		text := w.text()
		if r.below(6) == 0 {
			text = text[:r.below(len(text))]
		}
		seen[isParseAsModel(t, text+r.text(r.below(4)), s.info)]++
	}
	if seen[api.OK] < 3000 || seen[api.ErrMalformed] < 3000 || seen[api.ErrUnsupported] < 300 {
		t.Errorf("answers: %v", seen)
	}
}

// spoil makes a part of the frame another one.
func (r *numbers) spoil(w *raw) {
	switch r.below(12) {
	case 0:
		w.sizeCode = r.below(16)
		w.size = map[int]string{6: digits(r.below(256), 8), 7: digits(r.below(8000), 16)}[w.sizeCode]
	case 1:
		w.rateCode = r.below(16)
		w.rate = map[int]string{12: digits(r.below(256), 8), 13: digits(r.below(65536), 16), 14: digits(r.below(65536), 16)}[w.rateCode]
	case 2:
		w.channels = r.below(16)
	case 3:
		w.widthCode = r.below(8)
	case 4:
		w.number, _ = bytes.Coded(int(r.next() >> (28 + r.below(36))))
	case 5:
		w.number = r.text(1 + r.below(3))
	case 6:
		w.variable = 1 - w.variable
	case 7:
		w.sync ^= 1 << r.below(14)
	case 8:
		w.spoil8, w.spoil16 = r.below(2), r.below(2)
	case 9:
		w.fill = "1"
	default:
		at := r.below(len(w.body))
		w.body = w.body[:at] + digits(r.below(2), 1) + w.body[at+1:]
	}
}
