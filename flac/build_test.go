package flac_test

import (
	"math"
	"slices"
	"strings"
	"testing"

	"lacquer/api"
	"lacquer/flac"
	"lacquer/pcm"
)

// Promise 14.3.

func TestExamplesOfBuild(t *testing.T) {
	i := stream(1, 8, 8000)
	s, e := flac.Build(quietPcm(i, 0), quietFlac(i))
	if e != api.OK || s != "fLaC\x80\x00\x00\x22"+layInfo(i) {
		t.Errorf("%s %d", short(s), e)
	}
	i.MaxBlock, i.MinFrame, i.MaxFrame, i.Samples = 4096, 11, 11, 16
	l := []api.Frame{{Size: 16, SizeCode: 6, RateCode: 4, WidthCode: 1, Subs: []api.Sub{{Kind: api.SubConstant}}}}
	f := api.Flac{Blocks: []api.Block{{Body: layInfo(i)}, {Type: 1, Body: "pd"}}, Frames: l}
	want := "fLaC\x00\x00\x00\x22" +
		"\x00\x10\x10\x00\x00\x00\x0b\x00\x00\x0b\x01\xf4\x00\x70\x00\x00\x00\x10" + noughts +
		"\x81\x00\x00\x02pd" +
		"\xff\xf8\x64\x02\x00\x0f\x49\x00\x00\xfb\xea"
	if s, e := flac.Build(quietPcm(i, 16), f); e != api.OK || s != want {
		t.Errorf("%s %d", short(s), e)
	}
	isBuild(t, "Number 1 at first", quietPcm(i, 16), quietFlac(i, quiet(i, false, 1, 16)), api.ErrRecipe)
}

// What does not fit is refused with Fits' error, whatever the skeleton.
func TestPcmsThatDoNotFit(t *testing.T) {
	i := stream(1, 8, 8000)
	for _, f := range []api.Flac{{}, quietFlac(i), quietFlac(i, quiet(i, false, 0, 16)), quietFlac(i, quiet(i, false, 1, 16))} {
		for _, c := range misfits() {
			isBuild(t, c.what, c.pcm, f, c.want)
		}
	}
}

// misfit is a PCM that does not fit, with Fits' error.
type misfit struct {
	what string
	pcm  api.PCM
	want api.Errno
}

func misfits() []misfit {
	i := stream(1, 8, 8000)
	with := func(change func(p *api.PCM)) api.PCM {
		p := quietPcm(i, 16)
		change(&p)
		return p
	}
	return []misfit{
		{"nothing", api.PCM{}, api.ErrPcm},
		{"a rate of 0", with(func(p *api.PCM) { p.Rate = 0 }), api.ErrPcm},
		{"a rate past MaxRate", with(func(p *api.PCM) { p.Rate = 655351 }), api.ErrPcm},
		{"no channels", with(func(p *api.PCM) { p.Channels, p.Planes = 0, nil }), api.ErrPcm},
		{"9 channels", with(func(p *api.PCM) { p.Channels, p.Planes = 9, silence(9, 16) }), api.ErrPcm},
		{"a plane that lacks", with(func(p *api.PCM) { p.Channels = 2 }), api.ErrPcm},
		{"planes that differ", with(func(p *api.PCM) { p.Channels, p.Planes = 2, [][]int{{1, 2}, {1}} }), api.ErrPcm},
		{"a width of 3", with(func(p *api.PCM) { p.Width = 3 }), api.ErrPcm},
		{"a width of 33", with(func(p *api.PCM) { p.Width = 33 }), api.ErrPcm},
		{"a sample beyond", with(func(p *api.PCM) { p.Planes = [][]int{{128}} }), api.ErrPcm},
		{"a width of 25", with(func(p *api.PCM) { p.Width = 25 }), api.ErrUnfit},
		{"a width of 32", with(func(p *api.PCM) { p.Width = 32 }), api.ErrUnfit},
		{"too many samples", with(func(p *api.PCM) { p.Planes = silence(1, 1<<20+1) }), api.ErrLarge},
		{"too many samples of a width of 32", with(func(p *api.PCM) { p.Width, p.Planes = 32, silence(1, 1<<20+1) }), api.ErrLarge},
	}
}

// change is one thing done to a skeleton of three quiet frames of 20, 20 and 9 samples, and to its PCM.
type change struct {
	what string
	want api.Errno
	do   func(p *api.PCM, f *api.Flac)
}

// ofInfo changes what STREAMINFO says.
func ofInfo(do func(i *api.StreamInfo)) func(p *api.PCM, f *api.Flac) {
	return func(p *api.PCM, f *api.Flac) {
		i := infoOf(f.Blocks)
		do(&i)
		f.Blocks[0].Body = layInfo(i)
	}
}

func changesOfBlocks() []change {
	return []change{
		{"as it is", api.OK, func(p *api.PCM, f *api.Flac) {}},
		{"no blocks", api.ErrRecipe, func(p *api.PCM, f *api.Flac) { f.Blocks = nil }},
		{"a type", api.ErrRecipe, func(p *api.PCM, f *api.Flac) { f.Blocks[0].Type = 1 }},
		{"a second STREAMINFO", api.ErrRecipe, func(p *api.PCM, f *api.Flac) { f.Blocks = append(f.Blocks, f.Blocks[0]) }},
		{"a block ahead", api.ErrRecipe, func(p *api.PCM, f *api.Flac) { f.Blocks = slices.Insert(f.Blocks, 0, api.Block{Type: 1}) }},
		{"type 127", api.ErrRecipe, func(p *api.PCM, f *api.Flac) { f.Blocks = append(f.Blocks, api.Block{Type: 127}) }},
		{"type -1", api.ErrRecipe, func(p *api.PCM, f *api.Flac) { f.Blocks = append(f.Blocks, api.Block{Type: -1}) }},
		{"two comments", api.ErrRecipe, func(p *api.PCM, f *api.Flac) { f.Blocks = append(f.Blocks, api.Block{Type: 4}, api.Block{Type: 4}) }},
		{"a wrong block", api.ErrRecipe, func(p *api.PCM, f *api.Flac) { f.Blocks = append(f.Blocks, api.Block{Type: 2, Body: "abc"}) }},
		{"a wrong STREAMINFO", api.ErrRecipe, func(p *api.PCM, f *api.Flac) { f.Blocks[0].Body += "x" }},
		{"another block", api.OK, func(p *api.PCM, f *api.Flac) { f.Blocks = append(f.Blocks, api.Block{Type: 126, Body: "x"}) }},
		{"MinFrame and MaxFrame", api.OK, ofInfo(func(i *api.StreamInfo) { i.MinFrame, i.MaxFrame = 1<<24-1, 7 })},
		{"MinBlock 20", api.OK, ofInfo(func(i *api.StreamInfo) { i.MinBlock = 20 })},
		{"MinBlock 21", api.ErrRecipe, ofInfo(func(i *api.StreamInfo) { i.MinBlock = 21 })},
		{"MaxBlock 20", api.OK, ofInfo(func(i *api.StreamInfo) { i.MaxBlock = 20 })},
		{"MaxBlock 19", api.ErrRecipe, ofInfo(func(i *api.StreamInfo) { i.MaxBlock = 19 })},
		{"another Rate", api.ErrRecipe, ofInfo(func(i *api.StreamInfo) { i.Rate++ })},
		{"more Channels", api.ErrRecipe, ofInfo(func(i *api.StreamInfo) { i.Channels++ })},
		{"fewer Channels", api.ErrRecipe, ofInfo(func(i *api.StreamInfo) { i.Channels-- })},
		{"another Width", api.ErrRecipe, ofInfo(func(i *api.StreamInfo) { i.Width++ })},
		{"Samples 49", api.OK, ofInfo(func(i *api.StreamInfo) { i.Samples = 49 })},
		{"Samples 48", api.ErrRecipe, ofInfo(func(i *api.StreamInfo) { i.Samples = 48 })},
		{"Samples 50", api.ErrRecipe, ofInfo(func(i *api.StreamInfo) { i.Samples = 50 })},
		{"Samples 98", api.ErrRecipe, ofInfo(func(i *api.StreamInfo) { i.Samples = 98 })},
		{"a Digest", api.ErrRecipe, ofInfo(func(i *api.StreamInfo) { i.Digest = "0123456789abcdef" })},
		{"the Digest", api.OK, func(p *api.PCM, f *api.Flac) {
			ofInfo(func(i *api.StreamInfo) { i.Digest, _ = pcm.Digest(*p) })(p, f)
		}},
		{"the Digest, a byte changed", api.ErrRecipe, func(p *api.PCM, f *api.Flac) {
			ofInfo(func(i *api.StreamInfo) { i.Digest, _ = pcm.Digest(*p); i.Digest = swapped(i.Digest, 15, "?") })(p, f)
		}},
		{"the Digest, of other samples", api.ErrRecipe, func(p *api.PCM, f *api.Flac) {
			ofInfo(func(i *api.StreamInfo) { i.Digest, _ = pcm.Digest(quietPcm(*i, 48)) })(p, f)
		}},
	}
}

func changesOfFrames() []change {
	return []change{
		{"another rate", api.ErrRecipe, func(p *api.PCM, f *api.Flac) { p.Rate++ }},
		{"another width", api.ErrRecipe, func(p *api.PCM, f *api.Flac) { p.Width-- }},
		{"a channel more", api.ErrRecipe, func(p *api.PCM, f *api.Flac) { p.Channels, p.Planes = 3, silence(3, 49) }},
		{"a channel fewer", api.ErrRecipe, func(p *api.PCM, f *api.Flac) { p.Channels, p.Planes = 1, silence(1, 49) }},
		{"a sample more", api.ErrRecipe, func(p *api.PCM, f *api.Flac) { p.Planes = silence(2, 50) }},
		{"a sample fewer", api.ErrRecipe, func(p *api.PCM, f *api.Flac) { p.Planes = silence(2, 48) }},
		{"a frame fewer of samples", api.ErrRecipe, func(p *api.PCM, f *api.Flac) { p.Planes = silence(2, 40) }},
		{"no samples", api.ErrRecipe, func(p *api.PCM, f *api.Flac) { p.Planes = silence(2, 0) }},
		{"samples that are not the same", api.ErrRecipe, func(p *api.PCM, f *api.Flac) { p.Planes[1] = slices.Clone(p.Planes[1]); p.Planes[1][48] = 1 }},
		{"samples that are the same in each frame", api.OK, func(p *api.PCM, f *api.Flac) {
			p.Planes[0] = slices.Concat(slices.Repeat([]int{1}, 20), slices.Repeat([]int{2}, 20), slices.Repeat([]int{-3}, 9))
		}},
		{"no frames", api.ErrRecipe, func(p *api.PCM, f *api.Flac) { f.Frames = nil }},
		{"the last frame lacks", api.ErrRecipe, func(p *api.PCM, f *api.Flac) { f.Frames = f.Frames[:2] }},
		{"the first frame lacks", api.ErrRecipe, func(p *api.PCM, f *api.Flac) { f.Frames = f.Frames[1:] }},
		{"a frame more", api.ErrRecipe, func(p *api.PCM, f *api.Flac) { f.Frames = append(f.Frames, f.Frames[2]) }},
		{"a frame twice", api.ErrRecipe, func(p *api.PCM, f *api.Flac) { f.Frames = slices.Insert(f.Frames, 1, f.Frames[0]) }},
		{"a frame of no samples more", api.ErrRecipe, func(p *api.PCM, f *api.Flac) { f.Frames = append(f.Frames, api.Frame{Number: 3}) }},
		{"a Size of 0", api.ErrRecipe, func(p *api.PCM, f *api.Flac) { f.Frames[0].Size = 0 }},
		{"a Size below 0", api.ErrRecipe, func(p *api.PCM, f *api.Flac) { f.Frames[1].Size = -20 }},
		{"the least Size", api.ErrRecipe, func(p *api.PCM, f *api.Flac) { f.Frames[1].Size = math.MinInt }},
		{"the greatest Size", api.ErrRecipe, func(p *api.PCM, f *api.Flac) { f.Frames[1].Size = math.MaxInt }},
		{"a Size one off", api.ErrRecipe, func(p *api.PCM, f *api.Flac) { f.Frames[2].Size = 10 }},
		{"a Size moved on", api.ErrRecipe, func(p *api.PCM, f *api.Flac) { f.Frames[0].Size, f.Frames[2].Size = 21, 8 }},
		{"the last Size moved", api.ErrRecipe, func(p *api.PCM, f *api.Flac) { f.Frames[1].Size, f.Frames[2].Size = 9, 20 }},
		{"Number 1 at first", api.ErrRecipe, func(p *api.PCM, f *api.Flac) { f.Frames[0].Number = 1 }},
		{"Number -1 at first", api.ErrRecipe, func(p *api.PCM, f *api.Flac) { f.Frames[0].Number = -1 }},
		{"a Number one off", api.ErrRecipe, func(p *api.PCM, f *api.Flac) { f.Frames[1].Number = 2 }},
		{"a Number of samples", api.ErrRecipe, func(p *api.PCM, f *api.Flac) { f.Frames[1].Number = 20 }},
		{"a frame that is Variable", api.ErrRecipe, func(p *api.PCM, f *api.Flac) { f.Frames[1].Variable = true }},
		{"a frame that is Variable, and counts so", api.ErrRecipe, func(p *api.PCM, f *api.Flac) { f.Frames[1].Variable, f.Frames[1].Number = true, 20 }},
		{"the first one is Variable", api.ErrRecipe, func(p *api.PCM, f *api.Flac) { f.Frames[0].Variable = true }},
		{"all are Variable, and count frames", api.ErrRecipe, func(p *api.PCM, f *api.Flac) {
			for k := range f.Frames {
				f.Frames[k].Variable = true
			}
		}},
		{"all are Variable", api.OK, func(p *api.PCM, f *api.Flac) { f.Frames = quietRow(infoOf(f.Blocks), true, 20, 20, 9) }},
		{"all are Variable, of other sizes", api.OK, func(p *api.PCM, f *api.Flac) { f.Frames = quietRow(infoOf(f.Blocks), true, 16, 21, 12) }},
		{"two frames", api.OK, func(p *api.PCM, f *api.Flac) { f.Frames = quietRow(infoOf(f.Blocks), false, 30, 19) }},
		{"one frame", api.OK, func(p *api.PCM, f *api.Flac) { f.Frames = quietRow(infoOf(f.Blocks), false, 49) }},
		{"a short frame in the middle", api.ErrRecipe, func(p *api.PCM, f *api.Flac) { f.Frames = quietRow(infoOf(f.Blocks), true, 20, 15, 14) }},
		{"a code", api.ErrRecipe, func(p *api.PCM, f *api.Flac) { f.Frames[1].SizeCode = 8 }},
		{"a code of no rate", api.ErrRecipe, func(p *api.PCM, f *api.Flac) { f.Frames[1].RateCode = 15 }},
		{"another code", api.OK, func(p *api.PCM, f *api.Flac) { f.Frames[1].SizeCode, f.Frames[0].RateCode = 6, 9 }},
		{"a mode", api.OK, func(p *api.PCM, f *api.Flac) { f.Frames[1].Mode = api.ModeMid }},
		{"a mode that is none", api.ErrRecipe, func(p *api.PCM, f *api.Flac) { f.Frames[1].Mode = 4 }},
		{"a Sub that lacks", api.ErrRecipe, func(p *api.PCM, f *api.Flac) { f.Frames[2].Subs = f.Frames[2].Subs[:1] }},
		{"a Sub of another kind", api.OK, func(p *api.PCM, f *api.Flac) { f.Frames[2].Subs[1].Kind = api.SubVerbatim }},
		{"a Sub of no kind", api.ErrRecipe, func(p *api.PCM, f *api.Flac) { f.Frames[2].Subs[1].Kind = 4 }},
	}
}

// threeFrames is the file that the changes are of.
func threeFrames() (api.PCM, api.Flac) {
	i := stream(2, 16, 44100)
	return quietPcm(i, 49), quietFlac(i, quietRow(i, false, 20, 20, 9)...)
}

func TestChangedSkeletons(t *testing.T) {
	for _, c := range slices.Concat(changesOfBlocks(), changesOfFrames()) {
		p, f := threeFrames()
		c.do(&p, &f)
		isBuild(t, c.what, p, f, c.want)
		isLarge(t, c.what, p, f, c.want)
	}
}

// long is a Body that is as long as can be; blocks that share it have more bytes than they take memory.
var long = strings.Repeat("\x00", 1<<24-1)

// padded is the skeleton with blocks that alone are more than a file may have, wherever they may stand.
func padded(f api.Flac) api.Flac {
	if len(f.Blocks) > 0 {
		more := slices.Repeat([]api.Block{{Type: 1, Body: long}}, 5)
		f.Blocks = slices.Insert(slices.Clone(f.Blocks), 1, more...)
	}
	return f
}

// isLarge fails, unless Build of the skeleton with far too much metadata answers ErrLarge, if there is a file of it as it is, and else the same error.
func isLarge(t *testing.T, what string, p api.PCM, f api.Flac, e api.Errno) {
	t.Helper()
	if e == api.OK {
		e = api.ErrLarge
	}
	refuses(t, what+", and padding", p, padded(f), e)
}

// spoil does one thing to the file, which may be as right as it was.
func (r *numbers) spoil(p *api.PCM, f *api.Flac) {
	if len(f.Frames) == 0 || r.below(8) == 0 {
		r.spoilInfo(f)
		return
	}
	g := &f.Frames[r.below(len(f.Frames))]
	switch r.below(12) {
	case 0:
		g.Variable = !g.Variable
	case 1:
		g.Number += r.below(3) - 1
	case 2:
		g.Size += r.below(3) - 1
	case 3:
		g.SizeCode = r.below(17) - 1
	case 4:
		g.RateCode, g.WidthCode = r.below(17)-1, r.below(9)-1
	case 5:
		g.Mode = r.below(6) - 1
	case 6:
		f.Frames = f.Frames[:len(f.Frames)-1]
	case 7:
		plane := p.Planes[r.below(len(p.Planes))]
		plane[r.below(len(plane))] = r.signed(p.Width)
	default:
		r.spoilSub(&g.Subs[r.below(len(g.Subs))])
	}
}

func (r *numbers) spoilInfo(f *api.Flac) {
	at := r.below(34)
	f.Blocks[0].Body = swapped(f.Blocks[0].Body, at, r.text(1))
}

func (r *numbers) spoilSub(s *api.Sub) {
	switch r.below(9) {
	case 0:
		s.Kind = r.below(5)
	case 1:
		s.Order += r.below(3) - 1
	case 2:
		s.Wasted += r.below(3) - 1
	case 3:
		s.Precision += r.below(3) - 1
	case 4:
		s.Shift += r.below(3) - 1
	case 5:
		s.Rice.Method = r.below(4) - 1
	case 6:
		s.Rice.Order += r.below(3) - 1
	case 7:
		if n := len(s.Coefs); n > 0 {
			s.Coefs[r.below(n)] += r.below(3) - 1
		}
	default:
		if n := len(s.Rice.Params); n > 0 {
			s.Rice.Params[r.below(n)] += r.below(3) - 1
		}
		if n := len(s.Rice.Escapes); n > 0 && r.below(2) == 0 {
			s.Rice.Escapes[r.below(n)] += r.below(3) - 1
		}
	}
}

// Files that may be, and what comes of them by one change: Build answers ErrRecipe for just the skeletons of which no file is, be it too large or not.
func TestBuildOfAnySkeletons(t *testing.T) {
	r := numbers(1431)
	seen := map[api.Errno]int{}
	for range 12000 {
		p, f := r.file()
		isBuild(t, "a file", p, f, api.OK)
		r.spoil(&p, &f)
		e := builds(t, p, f)
		isLarge(t, "changed", p, f, e)
		seen[e]++
	}
	if seen[api.OK] < 3000 || seen[api.ErrRecipe] < 3000 {
		t.Errorf("errors were seen so often: %v", seen)
	}
}

func TestMaxFileOfBuild(t *testing.T) {
	p, f, s := fileOfSize(1 << 26)
	if u, e := flac.Build(p, f); e != api.OK || u != s {
		t.Fatalf("the largest file is not built: %d", e)
	}
	wrong := f
	wrong.Frames = slices.Clone(f.Frames)
	wrong.Frames[1].Number = 2
	refuses(t, "the largest, which is none", p, wrong, api.ErrRecipe)
	for _, more := range []int{1, 11, 12, 23, 4096} {
		p, f, s := fileOfSize(1<<26 + more)
		if len(s) != 67108864+more {
			t.Fatalf("%d bytes", len(s))
		}
		refuses(t, "too large", p, f, api.ErrLarge)
		f.Frames[1].Number = 2
		refuses(t, "too large, which is none", p, f, api.ErrRecipe)
	}
}

// Metadata that is far too large is looked at all the same.
func TestMetadataTooLarge(t *testing.T) {
	p, f := threeFrames()
	blocks := f.Blocks
	for _, c := range []struct {
		what string
		more []api.Block
		want api.Errno
	}{
		{"1024 blocks", slices.Repeat([]api.Block{{Type: 1, Body: long}}, 1023), api.ErrLarge},
		{"1025 blocks", slices.Repeat([]api.Block{{Type: 1, Body: long}}, 1024), api.ErrRecipe},
		{"each type", []api.Block{{Type: 1, Body: long}, {Type: 2, Body: long}, {Type: 4, Body: long}, {Type: 7, Body: long}, {Type: 126, Body: long}}, api.ErrLarge},
		{"a comment twice", []api.Block{{Type: 4, Body: long}, {Type: 2, Body: long}, {Type: 4, Body: long}, {Type: 7, Body: long}, {Type: 126, Body: long}}, api.ErrRecipe},
		{"a Body too long", slices.Repeat([]api.Block{{Type: 1, Body: long + "x"}}, 5), api.ErrRecipe},
		{"a SEEKTABLE", slices.Repeat([]api.Block{{Type: 3, Body: long[:18*900000]}}, 5), api.ErrLarge},
		{"a wrong SEEKTABLE", slices.Repeat([]api.Block{{Type: 3, Body: long}}, 5), api.ErrRecipe},
		{"a second STREAMINFO", append(slices.Repeat([]api.Block{{Type: 1, Body: long}}, 5), blocks[0]), api.ErrRecipe},
		{"type 127", slices.Repeat([]api.Block{{Type: 127, Body: long}}, 5), api.ErrRecipe},
	} {
		f.Blocks = slices.Concat(blocks, c.more)
		refuses(t, c.what, p, f, c.want)
		f.Blocks = c.more
		refuses(t, c.what+", no STREAMINFO", p, f, api.ErrRecipe)
		f.Blocks = slices.Concat(c.more, blocks)
		refuses(t, c.what+", STREAMINFO behind", p, f, api.ErrRecipe)
	}
}

// loud is a file of frames of 4096 samples as far from 0 as can be, coded as if they were small: each has a code of 2^24 bits 0 or so.
func loud(channels, frames int) (api.PCM, api.Flac) {
	i := stream(channels, 24, 44100)
	p := quietPcm(i, 4096*frames)
	for c := range p.Planes {
		p.Planes[c] = slices.Repeat([]int{-1 << 23, 1<<23 - 1}, 2048*frames)
	}
	f := quietFlac(i, quietRow(i, false, slices.Repeat([]int{4096}, frames)...)...)
	for k := range f.Frames {
		f.Frames[k].Subs = slices.Repeat([]api.Sub{codedBy(0)}, channels)
	}
	return p, f
}

// codedBy is a Sub of Rice codes with this parameter.
func codedBy(k int) api.Sub {
	return api.Sub{Kind: api.SubFixed, Rice: api.Rice{Method: 1, Params: []int{k}, Escapes: []int{-1}}}
}

// A skeleton whose codes would have far more bytes than there is memory is told all the same, as is one fault in it.
func TestCodesTooLarge(t *testing.T) {
	for _, channels := range []int{1, 2, 8} {
		p, f := loud(channels, 3)
		refuses(t, "loud", p, f, api.ErrLarge)
		for k := range f.Frames {
			p, f := loud(channels, 3)
			f.Frames[k].Subs[channels-1].Wasted = 1
			refuses(t, "loud, and a wasted bit that is none", p, f, api.ErrRecipe)
			p, f = loud(channels, 3)
			f.Frames[k].Subs[channels-1] = api.Sub{Kind: api.SubConstant}
			refuses(t, "loud, and a constant that is none", p, f, api.ErrRecipe)
			p, f = loud(channels, 3)
			f.Frames[k].Subs[channels-1] = api.Sub{Kind: api.SubFixed, Order: 1, Rice: codedBy(0).Rice}
			refuses(t, "loud, and a code too long", p, f, api.ErrRecipe)
			f.Frames[k].Subs[channels-1].Rice.Params[0] = 1
			refuses(t, "loud, and a code just as long as can be", p, f, api.ErrLarge)
			p, f = loud(channels, 3)
			f.Frames[k].Number++
			refuses(t, "loud, and a wrong Number", p, f, api.ErrRecipe)
		}
	}
	p, f := loud(2, 1)
	for mode, want := range []api.Errno{api.ErrLarge, api.ErrLarge, api.ErrLarge, api.ErrLarge, api.ErrRecipe} {
		f.Frames[0].Mode = mode
		refuses(t, "loud, in a mode", p, f, want)
	}
}

// bound fails, unless one frame of these samples, coded so, is built or refused as the model says, and likewise if it is too large a file's.
func bound(t *testing.T, s api.Sub, plane ...int) {
	t.Helper()
	i := stream(1, 24, 44100)
	p := quietPcm(i, len(plane))
	p.Planes = [][]int{plane}
	g := quiet(i, false, 0, len(plane))
	g.Subs = []api.Sub{s}
	f := quietFlac(i, g)
	isLarge(t, "a bound", p, f, builds(t, p, f))
}

// Of 2^24 bits 0 there is a code, of one more there is none.
func TestBoundsOfCodes(t *testing.T) {
	s := codedBy(0)
	for _, n := range []int{1<<23 - 1, -1 << 23, -1<<23 + 1} {
		bound(t, s, n)
		bound(t, s, 0, n, 0)
	}
	s.Order = 1
	for _, n := range []int{-2, -1, 0, 1, 2, 3} {
		bound(t, s, n, -1<<23)
		bound(t, s, n, 1<<23-1)
		bound(t, s, 0, n, -1<<23+1)
	}
	s.Rice.Params[0] = 1
	for _, n := range []int{1<<23 - 2, 1<<23 - 1, 1} {
		bound(t, s, n, -1<<23)
		bound(t, s, -n, 1<<23-1)
	}
	s.Order = 4
	s.Rice.Params[0] = 0
	for _, n := range []int{1398101, 1398102, -1398101, -1398102, 2097151, 2097152} {
		bound(t, s, 0, 0, 0, 0, 0, n, 0, 0)
		bound(t, s, 0, 0, 0, 0, -n, 0, 0, 0)
	}
}

// The least and the greatest number of each escape, and those beyond.
func TestBoundsOfEscapes(t *testing.T) {
	for width := range 25 {
		s := codedBy(0)
		s.Rice.Escapes = []int{width}
		for _, n := range []int{0, 1, -1, 1<<width>>1 - 1, 1 << width >> 1, -(1 << width >> 1), -(1 << width >> 1) - 1} {
			if n >= -1<<23 && n < 1<<23 {
				bound(t, s, 0, n, 0)
			}
		}
	}
}

// A file that its frames make too large, one at a time.
func TestFramesTooLarge(t *testing.T) {
	i := stream(1, 24, 44100)
	l := quietRow(i, false, slices.Repeat([]int{16}, 5)...)
	for k := range l {
		l[k].Subs = []api.Sub{codedBy(0)}
	}
	p := quietPcm(i, 80)
	for c := range p.Planes {
		p.Planes[c] = slices.Repeat([]int{4000000, -4000000}, 40)
	}
	// Each frame has 16 codes of some 8000000 bits, 16 megabytes together: four of them fit a file, five do not.
	whole := func(frames int) (api.PCM, api.Flac) {
		q := p
		q.Planes = [][]int{p.Planes[0][:16*frames]}
		return q, quietFlac(i, l[:frames]...)
	}
	q, f := whole(4)
	if !comesOut(t, q, f) {
		t.Error("four frames are refused")
	}
	q, f = whole(5)
	refuses(t, "five frames", q, f, api.ErrLarge)
	f.Frames = slices.Clone(l)
	f.Frames[4].Subs = []api.Sub{{Kind: api.SubConstant}}
	refuses(t, "four frames and a wrong one", q, f, api.ErrRecipe)
	f.Frames[0].Subs = f.Frames[4].Subs
	refuses(t, "a wrong one and three frames", q, f, api.ErrRecipe)
}

func TestMaxSamplesOfBuild(t *testing.T) {
	i := stream(1, 8, 44100)
	p := quietPcm(i, 1<<20)
	isBuild(t, "as many as can be", p, quietFlac(i, many(i, false)...), api.OK)
	isBuild(t, "one more in the frames", p, quietFlac(i, many(i, false, 1)...), api.ErrRecipe)
	isBuild(t, "one more in both", quietPcm(i, 1<<20+1), quietFlac(i, many(i, false, 1)...), api.ErrLarge)
	isBuild(t, "one fewer in the samples", quietPcm(i, 1<<20-1), quietFlac(i, many(i, false)...), api.ErrRecipe)
}

func TestBesideAnErrorOfBuildIsNothing(t *testing.T) {
	p, f := threeFrames()
	refuses(t, "a frame more", p, api.Flac{Blocks: f.Blocks, Frames: append(slices.Clone(f.Frames), f.Frames[2])}, api.ErrRecipe)
	refuses(t, "nothing at all", api.PCM{}, api.Flac{}, api.ErrPcm)
	refuses(t, "no skeleton", p, api.Flac{}, api.ErrRecipe)
	p.Width = 32
	refuses(t, "a width of 32", p, f, api.ErrUnfit)
}
