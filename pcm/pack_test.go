package pcm_test

import (
	"fmt"
	"math"
	"strings"
	"testing"

	"lacquer/api"
	"lacquer/pcm"
)

// Promise 5.2.

// packs fails, unless Pack of p, which may be, is what the model says, in each layout.
func packs(t *testing.T, p api.PCM) {
	t.Helper()
	for _, how := range layouts() {
		want, wanted := packModel(p, how)
		got, e := pcm.Pack(p, how)
		texts(t, fmt.Sprint("Pack ", how, " of ", told(p)), got, e, want, wanted)
	}
}

// unpacks fails, unless Unpack is what the model says, in each layout.
func unpacks(t *testing.T, s string, rate, channels, width int) {
	t.Helper()
	for _, how := range layouts() {
		want, wanted := unpackModel(s, rate, channels, width, how)
		got, e := pcm.Unpack(s, rate, channels, width, how)
		answers(t, fmt.Sprintf("Unpack(%d bytes, %d, %d, %d, %v)", len(s), rate, channels, width, how), got, e, want, wanted)
	}
}

func TestExamplesOfPack(t *testing.T) {
	two := api.PCM{Rate: 44100, Channels: 2, Width: 16, Planes: [][]int{{1}, {-1}}}
	for _, c := range []struct {
		p    api.PCM
		how  api.Layout
		want string
	}{
		{two, api.Layout{}, "\x01\x00\xff\xff"},
		{two, api.Layout{Big: true}, "\x00\x01\xff\xff"},
		{two, api.Layout{Unsigned: true}, "\x01\x80\xff\x7f"},
		{two, api.Layout{Big: true, Unsigned: true}, "\x80\x01\x7f\xff"},
		{one(8, -128, 0, 127), api.Layout{Unsigned: true}, "\x00\x80\xff"},
		{one(8, -128, 0, 127), api.Layout{}, "\x80\x00\x7f"},
		{one(12, -1), api.Layout{}, "\xff\xff"},
		{one(12, -1, -2048, 2047), api.Layout{Big: true}, "\xff\xff\xf8\x00\x07\xff"},
		{one(12, -1, -2048, 2047), api.Layout{Big: true, Unsigned: true}, "\x07\xff\x00\x00\x0f\xff"},
		{one(4, -8, -1, 0, 7), api.Layout{}, "\xf8\xff\x00\x07"},
		{one(4, -8, -1, 0, 7), api.Layout{Unsigned: true}, "\x00\x07\x08\x0f"},
		{one(24, -8388608, 66051), api.Layout{}, "\x00\x00\x80\x03\x02\x01"},
		{one(32, -2147483648, 16909060), api.Layout{Big: true}, "\x80\x00\x00\x00\x01\x02\x03\x04"},
		{one(32, -2147483648, 2147483647), api.Layout{Unsigned: true}, "\x00\x00\x00\x00\xff\xff\xff\xff"},
		{one(16), api.Layout{}, ""},
	} {
		got, e := pcm.Pack(c.p, c.how)
		texts(t, fmt.Sprint("Pack of ", c.p, c.how), got, e, c.want, api.OK)
		p, e := pcm.Unpack(c.want, c.p.Rate, c.p.Channels, c.p.Width, c.how)
		answers(t, fmt.Sprint("Unpack to ", c.p, c.how), p, e, c.p, api.OK)
	}
}

func TestChannelsStandInOrder(t *testing.T) {
	p := api.PCM{Rate: 8000, Channels: 3, Width: 8, Planes: [][]int{{1, 4}, {2, 5}, {3, 6}}}
	got, e := pcm.Pack(p, api.Layout{})
	texts(t, "Pack", got, e, "\x01\x02\x03\x04\x05\x06", api.OK)
	q, e := pcm.Unpack("\x01\x02\x03\x04\x05\x06", 8000, 3, 8, api.Layout{})
	answers(t, "Unpack", q, e, p, api.OK)
}

func TestPackOfEachWidth(t *testing.T) {
	r := numbers(521)
	for _, width := range widths() {
		packs(t, one(width))
		packs(t, one(width, edges(width)...))
		for channels := 1; channels <= 8; channels++ {
			for _, length := range []int{0, 1, 2, 3, 20} {
				packs(t, r.pcm(channels, width, length))
			}
		}
	}
}

func TestPackOfAllSamples(t *testing.T) {
	for _, width := range []int{4, 5, 7, 8, 9, 12, 15, 16} {
		p := one(width)
		for v := low(width); v <= high(width); v++ {
			p.Planes[0] = append(p.Planes[0], v)
		}
		packs(t, p)
	}
}

func TestPackAtTheLimit(t *testing.T) {
	p := quiet(8, 32, api.MaxSamples)
	for i, plane := range p.Planes {
		plane[0], plane[len(plane)-1] = i+1, -i-1
	}
	s, e := pcm.Pack(p, api.Layout{})
	if e != api.OK || len(s) != api.MaxSamples*8*4 {
		t.Fatalf("%d bytes, error %d", len(s), e)
	}
	for i := range 8 {
		last := s[len(s)-32:]
		if s[4*i:4*i+4] != string(bytesOf(i+1, 32, api.Layout{})) || last[4*i:4*i+4] != string(bytesOf(-i-1, 32, api.Layout{})) {
			t.Fatalf("channel %d", i)
		}
	}
	if strings.Trim(s[32:len(s)-32], "\x00") != "" {
		t.Fatal("samples of 0 are others")
	}
	q, e := pcm.Unpack(s, p.Rate, 8, 32, api.Layout{})
	answers(t, "Unpack", q, e, p, api.OK)
}

func TestUnpackOfWhatMayNotBe(t *testing.T) {
	wrong := [][3]int{
		{0, 1, 16}, {-1, 1, 16}, {api.MaxRate + 1, 1, 16}, {math.MinInt, 1, 16}, {math.MaxInt, 1, 16},
		{1, 0, 16}, {1, -1, 16}, {1, 9, 16}, {1, math.MinInt, 16}, {1, math.MaxInt, 16}, {1, 1 << 62, 16},
		{1, 1, 3}, {1, 1, 0}, {1, 1, -1}, {1, 1, -8}, {1, 1, 33}, {1, 1, 64}, {1, 1, math.MinInt}, {1, 1, math.MaxInt},
		{0, 0, 0},
	}
	long := strings.Repeat("\x00", 4*api.MaxSamples+1)
	for _, w := range wrong {
		for _, s := range []string{"", "\x00", "\x00\x00", "123", long} {
			for _, how := range layouts() {
				p, e := pcm.Unpack(s, w[0], w[1], w[2], how)
				answers(t, fmt.Sprint("Unpack as ", w), p, e, api.PCM{}, api.ErrPcm)
			}
		}
	}
}

func TestUnpackAtTheEdgesOfWhatMayBe(t *testing.T) {
	for _, rate := range []int{0, 1, api.MaxRate, api.MaxRate + 1} {
		for _, channels := range []int{0, 1, api.MaxChannels, api.MaxChannels + 1} {
			for _, width := range []int{3, 4, 8, 12, 16, 24, 32, 33} {
				unpacks(t, "", rate, channels, width)
				unpacks(t, strings.Repeat("\x01", 96), rate, channels, width)
				unpacks(t, strings.Repeat("\x01", 97), rate, channels, width)
				unpacks(t, strings.Repeat("\x00", 96), rate, channels, width)
			}
		}
	}
}

func TestTextsThatAreNotDivided(t *testing.T) {
	for _, width := range widths() {
		for channels := 1; channels <= 8; channels++ {
			step := channels * sizeOf(width)
			for n := range 2*step + 2 {
				want := api.ErrMalformed
				if n%step == 0 {
					want = api.OK
				}
				p, e := pcm.Unpack(strings.Repeat("\x00", n), 1, channels, width, api.Layout{})
				answers(t, fmt.Sprint(n, " bytes of ", channels, " channels of width ", width), p, e, quietAt(1, channels, width, n/step), want)
			}
		}
	}
}

func quietAt(rate, channels, width, length int) api.PCM {
	p := quiet(channels, width, length)
	p.Rate = rate
	return p
}

func TestTextsOfTooManySamples(t *testing.T) {
	for _, c := range [][2]int{{1, 4}, {1, 8}, {1, 12}, {2, 16}, {8, 8}, {3, 24}, {1, 32}} {
		channels, width := c[0], c[1]
		step := channels * sizeOf(width)
		most := strings.Repeat("\x00", api.MaxSamples*step)
		p, e := pcm.Unpack(most, 7, channels, width, api.Layout{})
		answers(t, "MaxSamples", p, e, quietAt(7, channels, width, api.MaxSamples), api.OK)
		p, e = pcm.Unpack(most+strings.Repeat("\x00", step), 7, channels, width, api.Layout{})
		answers(t, "one more", p, e, api.PCM{}, api.ErrLarge)
		p, e = pcm.Unpack(most+strings.Repeat("\x00", 2*step), 7, channels, width, api.Layout{})
		answers(t, "two more", p, e, api.PCM{}, api.ErrLarge)
		// What is not divided is told ahead of what is too long.
		if step > 1 {
			p, e = pcm.Unpack(most+strings.Repeat("\x00", step+1), 7, channels, width, api.Layout{})
			answers(t, "more, and not divided", p, e, api.PCM{}, api.ErrMalformed)
		}
	}
	// What is too long is told ahead of a number that is no sample.
	p, e := pcm.Unpack(strings.Repeat("\x40", api.MaxSamples+1), 7, 1, 4, api.Layout{})
	answers(t, "too long, and no samples", p, e, api.PCM{}, api.ErrLarge)
	p, e = pcm.Unpack(strings.Repeat("\x40", api.MaxSamples), 7, 1, 4, api.Layout{})
	answers(t, "no samples", p, e, api.PCM{}, api.ErrMalformed)
}

func TestNumbersThatAreNoSamples(t *testing.T) {
	for _, c := range []struct {
		s     string
		width int
		how   api.Layout
		want  api.Errno
	}{
		{"\x00\x10", 12, api.Layout{}, api.ErrMalformed}, // 4096, the chapter's example
		{"\xff\x07", 12, api.Layout{}, api.OK},
		{"\x00\x08", 12, api.Layout{}, api.ErrMalformed},
		{"\x00\xf8", 12, api.Layout{}, api.OK},
		{"\xff\xf7", 12, api.Layout{}, api.ErrMalformed},
		{"\x07\xff", 12, api.Layout{Big: true}, api.OK},
		{"\x08\x00", 12, api.Layout{Big: true}, api.ErrMalformed},
		{"\x0f\xff", 12, api.Layout{Big: true, Unsigned: true}, api.OK},
		{"\x10\x00", 12, api.Layout{Big: true, Unsigned: true}, api.ErrMalformed},
		{"\x00\x00", 12, api.Layout{Unsigned: true}, api.OK},
		{"\xff\xff", 12, api.Layout{Unsigned: true}, api.ErrMalformed},
		{"\x07", 4, api.Layout{}, api.OK},
		{"\x08", 4, api.Layout{}, api.ErrMalformed},
		{"\xf8", 4, api.Layout{}, api.OK},
		{"\xf7", 4, api.Layout{}, api.ErrMalformed},
		{"\x0f", 4, api.Layout{Unsigned: true}, api.OK},
		{"\x10", 4, api.Layout{Unsigned: true}, api.ErrMalformed},
		{"\xff\xff\xff\x7f", 31, api.Layout{}, api.ErrMalformed},
		{"\xff\xff\xff\x3f", 31, api.Layout{}, api.OK},
		{"\xff\xff\xff\x7f", 31, api.Layout{Unsigned: true}, api.OK},
		{"\x00\x00\x00\x80", 31, api.Layout{Unsigned: true}, api.ErrMalformed},
		{"\xff\xff\xff\xff", 32, api.Layout{Unsigned: true}, api.OK},
		{"\x00\x00\x00\x80", 32, api.Layout{}, api.OK},
	} {
		if _, e := pcm.Unpack(c.s, 8000, 1, c.width, c.how); e != c.want {
			t.Errorf("Unpack(% x, width %d, %v): %d, not %d", c.s, c.width, c.how, e, c.want)
		}
		unpacks(t, c.s, 8000, 1, c.width)
	}
}

func TestUnpackOfEachCell(t *testing.T) {
	for width := 4; width <= 8; width++ {
		for a := range 256 {
			unpacks(t, string([]byte{byte(a)}), 1, 1, width)
		}
	}
	for width := 9; width <= 16; width++ {
		for a := range 256 {
			for _, b := range []int{0, 1, 2, 3, 4, 7, 8, 15, 16, 31, 32, 63, 64, 127, 128, 191, 192, 224, 240, 247, 248, 252, 254, 255} {
				unpacks(t, string([]byte{byte(a), byte(b)}), 1, 1, width)
			}
		}
	}
}

// One number that is no sample spoils all, wherever it stands.
func TestOneWrongNumber(t *testing.T) {
	p := quiet(3, 12, 4)
	s, _ := pcm.Pack(p, api.Layout{})
	for at := range 12 {
		b := []byte(s)
		b[2*at+1] = 0x10
		q, e := pcm.Unpack(string(b), 44100, 3, 12, api.Layout{})
		answers(t, fmt.Sprint("number ", at), q, e, api.PCM{}, api.ErrMalformed)
	}
}

func TestUnpackOfManyTexts(t *testing.T) {
	r := numbers(522)
	for range 3000 {
		channels, width := 1+r.below(8), 4+r.below(29)
		unpacks(t, r.text(r.below(60)), 1+r.below(api.MaxRate), channels, width)
		unpacks(t, r.text(channels*sizeOf(width)*r.below(5)), 1, channels, width)
	}
}
