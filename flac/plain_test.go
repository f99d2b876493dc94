package flac_test

import (
	"math"
	"slices"
	"testing"

	"lacquer/api"
	"lacquer/flac"
	"lacquer/pcm"
)

// Promise 14.4.

func TestExamplesOfPlain(t *testing.T) {
	i := stream(2, 16, 44100)
	for level, size := range []int{1152, 4096, 4096} {
		f, e := flac.Plain(quietPcm(i, 0), level)
		want := api.StreamInfo{MinBlock: size, MaxBlock: size, Rate: 44100, Channels: 2, Width: 16}
		want.Digest = "\xd4\x1d\x8c\xd9\x8f\x00\xb2\x04\xe9\x80\x09\x98\xec\xf8\x42\x7e"
		if e != api.OK || !sameFlac(f, quietFlac(want)) {
			t.Errorf("no samples: %s %d", short(f), e)
		}
		s, e := flac.Build(quietPcm(i, 0), f)
		if e != api.OK || s != "fLaC\x80\x00\x00\x22"+layInfo(want) {
			t.Errorf("no samples: %s %d", short(s), e)
		}

		p := quietPcm(i, 5)
		p.Planes = [][]int{{7, 7, 7, 7, 7}, {-3, -3, -3, -3, -3}}
		f, e = flac.Plain(p, level)
		want.Samples = 5
		want.Digest, _ = pcm.Digest(p)
		want.MinFrame, want.MaxFrame = 15, 15
		frame := api.Frame{Size: 5, SizeCode: 6, RateCode: 9, WidthCode: 4, Subs: []api.Sub{{Kind: api.SubConstant}, {Kind: api.SubConstant}}}
		if e != api.OK || !sameFlac(f, quietFlac(want, frame)) {
			t.Errorf("five samples: %s %d", short(f), e)
		}
	}
}

func TestLevels(t *testing.T) {
	i := stream(2, 16, 44100)
	for _, size := range []int{0, 1, 5000} {
		p := quietPcm(i, size)
		for level := range 3 {
			isPlain(t, "a level", p, level, api.OK)
		}
		for _, level := range []int{math.MinInt, -2, -1, 3, 4, 1 << 32, math.MaxInt} {
			isPlain(t, "no level", p, level, api.ErrArg)
		}
	}
}

// What does not fit is refused with Fits' error, but behind a level that is none.
func TestPlainOfPcmsThatDoNotFit(t *testing.T) {
	for _, c := range misfits() {
		for level := range 3 {
			isPlain(t, c.what, c.pcm, level, c.want)
		}
		isPlain(t, c.what+", and no level", c.pcm, -1, api.ErrArg)
		isPlain(t, c.what+", and no level", c.pcm, 3, api.ErrArg)
	}
}

// PCMs of no samples, of just some frames' samples, and one more and less.
func TestLengthsOfPlain(t *testing.T) {
	r := numbers(1441)
	for level, size := range []int{1152, 4096, 4096} {
		for _, length := range []int{0, 1, 2, 15, 16, 17, size - 1, size, size + 1, 2*size - 1, 2 * size, 2*size + 1, 3*size + 7} {
			p := r.sound(1+r.below(3), 4+r.below(21), length)
			isPlain(t, "a length", p, level, api.OK)
			f, _ := flac.Plain(p, level)
			left := length
			for k, g := range f.Frames {
				if g.Variable || g.Number != k || g.Size != min(size, left) {
					t.Fatalf("%d samples: frame %d is %s", length, k, short(g))
				}
				left -= g.Size
			}
			if left != 0 || len(f.Blocks) != 1 {
				t.Fatalf("%d samples: %d are left, %d blocks", length, left, len(f.Blocks))
			}
		}
	}
}

// sound is a PCM of so many samples of a channel.
func (r *numbers) sound(channels, width, length int) api.PCM {
	p := api.PCM{Rate: 1 + r.below(655350), Channels: channels, Width: width}
	for range channels {
		var plane []int
		for len(plane) < length {
			plane = append(plane, r.plane(min(length-len(plane), 1+r.below(3000)), width)...)
		}
		p.Planes = append(p.Planes, plane)
	}
	return p
}

func TestPlainOfEachKind(t *testing.T) {
	r := numbers(1442)
	for channels := 1; channels <= 8; channels++ {
		for width := 4; width <= 24; width++ {
			p := r.sound(channels, width, 1+r.below(1500))
			for level := range 3 {
				isPlain(t, "any", p, level, api.OK)
			}
		}
	}
}

// MinFrame and MaxFrame are those of the shortest and the longest frame, wherever they stand.
func TestLengthsOfFrames(t *testing.T) {
	r := numbers(1443)
	i := stream(1, 16, 8000)
	for _, bits := range [][]int{{16, 8, 1}, {1, 8, 16}, {8, 1, 16}, {8, 16, 1}, {1, 1, 1}, {4}} {
		p := quietPcm(i, 0)
		for _, n := range bits {
			for range 1152 {
				p.Planes[0] = append(p.Planes[0], int(r.next())>>(64-n))
			}
		}
		f, e := flac.Plain(p, 0)
		if e != api.OK {
			t.Fatal(e)
		}
		var lengths []int
		for k, g := range f.Frames {
			s, _ := layModel(quietPcm(i, 0), api.Flac{Blocks: f.Blocks})
			whole, ok := layModel(api.PCM{Planes: [][]int{p.Planes[0][k*1152:]}}, api.Flac{Blocks: f.Blocks, Frames: []api.Frame{g}})
			if !ok {
				t.Fatalf("frame %d is not laid", k)
			}
			lengths = append(lengths, len(whole)-len(s))
		}
		said := infoOf(f.Blocks)
		if said.MinFrame != slices.Min(lengths) || said.MaxFrame != slices.Max(lengths) {
			t.Errorf("%v: %d to %d", lengths, said.MinFrame, said.MaxFrame)
		}
	}
}

func TestMaxSamplesOfPlain(t *testing.T) {
	i := stream(1, 24, 655350)
	for level := range 3 {
		p := quietPcm(i, 1<<20)
		isPlain(t, "as many as can be", p, level, api.OK)
		if !comesOut(t, p, plain(t, p, level)) {
			t.Error("as many as can be are not built")
		}
		isPlain(t, "one more", quietPcm(i, 1<<20+1), level, api.ErrLarge)
	}
}

// plain is Plain's skeleton of what fits.
func plain(t *testing.T, p api.PCM, level int) api.Flac {
	t.Helper()
	f, e := flac.Plain(p, level)
	if e != api.OK {
		t.Fatalf("Plain(%s, %d): error %d", short(p), level, e)
	}
	return f
}
