package oggflac_test

import (
	"math"
	"slices"
	"sort"
	"testing"

	"lacquer/api"
	"lacquer/flac"
	"lacquer/oggflac"
	"lacquer/pcm"
)

// Promise 16.3.

func TestExamplesOfPlain(t *testing.T) {
	for level := range 3 {
		o, e := oggflac.Plain(quietPcm(stream(1, 8, 8000), 0), level)
		if e != api.OK || len(o.Pages) != 1 {
			t.Fatalf("%s %d", short(o), e)
		}
		if p := o.Pages[0]; p.Flags != 6 || p.Granule != 0 || p.Serial != 1 || p.Seq != 0 || !slices.Equal(p.Laces, []int{51}) {
			t.Errorf("%s", short(p))
		}
		if o.Major != 1 || o.Minor != 0 || o.Count != 0 {
			t.Errorf("%s", short(o))
		}
		p := api.PCM{Rate: 44100, Channels: 1, Width: 16, Planes: [][]int{{1, 2, 3, 4, 6}}}
		o = isPlain(t, "five samples", p, level, api.OK)
		if l := o.Pages; len(l) != 2 || l[0].Flags != 2 || l[1].Flags != 4 || l[1].Granule != 5 || l[1].Seq != 1 {
			t.Errorf("%s", short(l))
		}
	}
}

// sound is samples that a predictor foretells, more or less.
func (r *numbers) sound(channels, width, length int) api.PCM {
	p := api.PCM{Rate: 44100, Channels: channels, Width: width}
	for range channels {
		l := make([]int, length)
		high := 1 << (width - 1)
		for i, n := 0, 0; i < length; i++ {
			n = max(min(n+r.below(9)-4, high-1), -high)
			l[i] = n
		}
		p.Planes = append(p.Planes, l)
	}
	return p
}

func TestPlainOfEachKind(t *testing.T) {
	r := numbers(1631)
	for channels := 1; channels <= 8; channels++ {
		for _, width := range []int{4, 8, 12, 16, 20, 24} {
			for _, length := range []int{0, 1, 17, 1152, 1153, 4096, 4097} {
				p := r.sound(channels, width, length)
				level := r.below(2)
				if channels == 1 {
					level = 2
				}
				o := isPlain(t, "sound", p, level, api.OK)
				isBuild(t, "sound", p, o, api.OK)
			}
		}
	}
}

// The errors of Plain: flac.Plain's, of which another level is the first one.
func TestErrorsOfPlain(t *testing.T) {
	good := quietPcm(stream(1, 8, 8000), 16)
	for _, level := range []int{math.MinInt, -1, 3, 4, math.MaxInt} {
		isPlain(t, "another level", good, level, api.ErrArg)
		for _, c := range misfits() {
			isPlain(t, "another level, "+c.what, c.pcm, level, api.ErrArg)
		}
	}
	for level := range 3 {
		for _, c := range misfits() {
			isPlain(t, c.what, c.pcm, level, c.want)
		}
	}
}

// The errors of Lay: Fits', then flac.Build's.
func TestErrorsOfLay(t *testing.T) {
	_, good := threeFrames()
	for _, f := range []api.Flac{{}, good.Flac} {
		for _, c := range misfits() {
			isLay(t, c.what, c.pcm, f, c.want)
		}
	}
	for _, c := range changesOfStream() {
		p, o := threeFrames()
		o = apart(o)
		c.do(&p, &o)
		_, want := flac.Build(p, o.Flac)
		isLay(t, c.what, p, o.Flac, want)
	}
	p, o := threeFrames()
	if x, e := oggflac.Lay(p, api.Flac{}); e != api.ErrRecipe || !sameOgg(x, api.Ogg{}) {
		t.Errorf("%s %d", short(x), e)
	}
	if x, e := oggflac.Lay(p, padded(o).Flac); e != api.ErrLarge || !sameOgg(x, api.Ogg{}) {
		t.Errorf("%s %d", short(x), e)
	}
	q, f, _ := loud(2)
	if x, e := oggflac.Lay(q, f); e != api.ErrLarge || !sameOgg(x, api.Ogg{}) {
		t.Errorf("%s %d", short(x), e)
	}
}

func TestLayOfAnyStreams(t *testing.T) {
	r := numbers(1632)
	for range 1500 {
		p, o := r.file()
		isLay(t, "a stream", p, o.Flac, api.OK)
		r.spoilFrame(&p, &o)
		_, e := flac.Build(p, o.Flac)
		isLay(t, "a spoilt stream", p, o.Flac, e)
	}
}

// The pages of packets of so many bytes, by hand.
func TestPagesOfLay(t *testing.T) {
	i := stream(1, 8, 8000)
	info := api.Block{Body: layInfo(i)}
	for size, want := range map[int][]int{
		4: {4}, 253: {253}, 254: {254}, 255: {255, 0}, 256: {255, 1}, 509: {255, 254}, 510: {255, 255, 0}, 511: {255, 255, 1},
	} {
		f := api.Flac{Blocks: []api.Block{info, {Type: 1, Body: long[:size-4]}}}
		o := isLay(t, "a packet", quietPcm(i, 0), f, api.OK)
		if len(o.Pages) != 2 || !slices.Equal(o.Pages[1].Laces, want) || o.Count != 1 {
			t.Errorf("%d: %s", size, short(o))
		}
	}
	// A frame of 16 samples has 12 bytes.
	if quietSize(i, 16) != 12 {
		t.Fatalf("%d bytes", quietSize(i, 16))
	}
	for _, c := range []struct {
		size     int
		counts   []int // how many laces each page has
		granules []int
	}{
		{254*255 - 1, []int{1, 255}, []int{0, 16}},
		{254 * 255, []int{1, 255, 1}, []int{0, 0, 16}},
		{255*255 - 1, []int{1, 255, 1}, []int{0, 0, 16}},
		{255 * 255, []int{1, 255, 2}, []int{0, -1, 16}},
		{255*255 + 1, []int{1, 255, 2}, []int{0, -1, 16}},
		{2*65025 - 1, []int{1, 255, 255, 1}, []int{0, -1, 0, 16}},
		{2 * 65025, []int{1, 255, 255, 2}, []int{0, -1, -1, 16}},
		{3 * 65025, []int{1, 255, 255, 255, 2}, []int{0, -1, -1, -1, 16}},
	} {
		f := api.Flac{Blocks: []api.Block{info, {Type: 1, Body: long[:c.size-4]}}, Frames: quietRow(i, false, 16)}
		o := isLay(t, "a long packet", quietPcm(i, 16), f, api.OK)
		if len(o.Pages) != len(c.counts) {
			t.Fatalf("%d: %d pages", c.size, len(o.Pages))
		}
		for k, p := range o.Pages {
			if len(p.Laces) != c.counts[k] || p.Granule != c.granules[k] {
				t.Errorf("%d: page %d: %s", c.size, k, short(p))
			}
			isWithin := k > 1 && o.Pages[k-1].Laces[254] == 255
			isLast := k == len(o.Pages)-1
			if p.Seq != k || p.Serial != 1 || p.Flags != btoi(isWithin)+2*btoi(k == 0)+4*btoi(isLast) {
				t.Errorf("%d: page %d: %s", c.size, k, short(p))
			}
		}
	}
}

// Many short frames: 255 of them in a page.
func TestManyFramesOfLay(t *testing.T) {
	i := stream(1, 8, 8000)
	for _, count := range []int{1, 254, 255, 256, 510, 511, 1000} {
		f := api.Flac{Blocks: []api.Block{{Body: layInfo(i)}}, Frames: quietRow(i, false, slices.Repeat([]int{16}, count)...)}
		o := isLay(t, "many frames", quietPcm(i, 16*count), f, api.OK)
		for k, p := range o.Pages {
			if want := 16 * min(255*k, count); p.Granule != want {
				t.Errorf("%d frames, page %d: Granule %d, not %d", count, k, p.Granule, want)
			}
		}
		if len(o.Pages) != 1+(count+254)/255 {
			t.Errorf("%d frames: %d pages", count, len(o.Pages))
		}
	}
}

// Count is how many blocks there are besides the first one, as many as there may be.
func TestCountsOfLay(t *testing.T) {
	i := stream(1, 8, 8000)
	f := api.Flac{Blocks: []api.Block{{Body: layInfo(i)}}}
	for n := range 1024 {
		o, e := oggflac.Lay(quietPcm(i, 0), f)
		if e != api.OK || o.Count != n {
			t.Fatalf("%d blocks more: Count %d, error %d", n, o.Count, e)
		}
		f.Blocks = append(f.Blocks, api.Block{Type: 1})
	}
	for _, n := range []int{1025, 65536, 65537} {
		for len(f.Blocks) < n {
			f.Blocks = append(f.Blocks, api.Block{Type: 1})
		}
		isLay(t, "too many blocks", quietPcm(i, 0), f, api.ErrRecipe)
	}
}

// The largest file that Lay lays, and one that is larger only by what Ogg adds.
func TestMaxFileOfLay(t *testing.T) {
	// As much padding as a file of this size may have.
	most := func(size int) int {
		return sort.Search(size, func(n int) bool {
			_, _, got := filled(n, 0)
			return got > size
		}) - 1
	}
	fits := most(1 << 26)
	for padding, want := range map[int]api.Errno{fits: api.OK, fits + 1: api.ErrLarge} {
		p, o, size := filled(padding, 0)
		if (size <= 1<<26) != (want == api.OK) || size < 1<<26-30 || size > 1<<26+30 {
			t.Fatalf("%d bytes", size)
		}
		x, e := oggflac.Lay(p, o.Flac)
		if want != api.OK {
			o = api.Ogg{}
		}
		if e != want || !sameOgg(x, o) {
			t.Errorf("%d bytes: %s, error %d", size, short(x), e)
		}
	}
}

// All that fits has a plain skeleton.
func TestPlainOfLoudSamples(t *testing.T) {
	r := numbers(1633)
	for _, width := range []int{4, 17, 24} {
		p := api.PCM{Rate: 655350, Channels: 8, Width: width}
		for range 8 {
			l := make([]int, 5000)
			for k := range l {
				l[k] = int(r.next()) >> (64 - width)
			}
			p.Planes = append(p.Planes, l)
		}
		o := isPlain(t, "noise", p, 0, api.OK)
		isBuild(t, "noise", p, o, api.OK)
		if last := o.Pages[len(o.Pages)-1]; last.Granule != pcm.Len(p) {
			t.Errorf("Granule %d", last.Granule)
		}
	}
}
