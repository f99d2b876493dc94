package oggflac_test

import (
	"math"
	"slices"
	"testing"

	"lacquer/api"
	"lacquer/oggflac"
	"lacquer/pcm"
)

// Promise 16.2.

func TestExamplesOfBuild(t *testing.T) {
	i := stream(1, 8, 8000)
	o := api.Ogg{Major: 1, Pages: []api.Page{{Flags: 6, Laces: []int{51}}}, Flac: api.Flac{Blocks: []api.Block{{Body: layInfo(i)}}}}
	s, e := oggflac.Build(quietPcm(i, 0), o)
	if e != api.OK || len(s) != 79 || s[28:] != "\x7fFLAC\x01\x00\x00\x00fLaC\x80\x00\x00\x22"+layInfo(i) {
		t.Errorf("%s %d", short(s), e)
	}
	isBuild(t, "no samples", quietPcm(i, 0), o, api.OK)
	o.Major = 2
	isBuild(t, "Major 2", quietPcm(i, 0), o, api.ErrRecipe)
}

// misfit is a PCM that does not fit, with Fits' error.
type misfit struct {
	what string
	pcm  api.PCM
	want api.Errno
}

func misfits() []misfit {
	i := stream(1, 8, 8000)
	with := func(change func(p *api.PCM)) api.PCM {
		p := quietPcm(i, 16)
		change(&p)
		return p
	}
	return []misfit{
		{"nothing", api.PCM{}, api.ErrPcm},
		{"a rate of 0", with(func(p *api.PCM) { p.Rate = 0 }), api.ErrPcm},
		{"a rate past MaxRate", with(func(p *api.PCM) { p.Rate = 655351 }), api.ErrPcm},
		{"no channels", with(func(p *api.PCM) { p.Channels, p.Planes = 0, nil }), api.ErrPcm},
		{"9 channels", with(func(p *api.PCM) { p.Channels, p.Planes = 9, silence(9, 16) }), api.ErrPcm},
		{"a plane that lacks", with(func(p *api.PCM) { p.Channels = 2 }), api.ErrPcm},
		{"planes that differ", with(func(p *api.PCM) { p.Channels, p.Planes = 2, [][]int{{1, 2}, {1}} }), api.ErrPcm},
		{"a width of 3", with(func(p *api.PCM) { p.Width = 3 }), api.ErrPcm},
		{"a sample beyond", with(func(p *api.PCM) { p.Planes = [][]int{{128}} }), api.ErrPcm},
		{"a width of 25", with(func(p *api.PCM) { p.Width = 25 }), api.ErrUnfit},
		{"a width of 32", with(func(p *api.PCM) { p.Width = 32 }), api.ErrUnfit},
		{"too many samples", with(func(p *api.PCM) { p.Planes = silence(1, 1<<20+1) }), api.ErrLarge},
		{"too many samples of a width of 32", with(func(p *api.PCM) { p.Width, p.Planes = 32, silence(1, 1<<20+1) }), api.ErrLarge},
	}
}

// What does not fit is refused with Fits' error, whatever the skeleton.
func TestPcmsThatDoNotFit(t *testing.T) {
	_, o := threeFrames()
	wrong := o
	wrong.Major = 2
	for _, x := range []api.Ogg{{}, o, wrong} {
		for _, c := range misfits() {
			isBuild(t, c.what, c.pcm, x, c.want)
		}
	}
}

// threeFrames is the file that the changes are of: STREAMINFO and two blocks of padding, and quiet frames of 20, 20 and 9 samples, in pages of 1, 4, 3, 0 and 2 laces; the second block goes over two pages.
func threeFrames() (api.PCM, api.Ogg) {
	i := stream(2, 16, 44100)
	f := api.Flac{
		Blocks: []api.Block{{Body: layInfo(i)}, {Type: 1, Body: long[:1000]}, {Type: 1, Body: "pad"}},
		Frames: quietRow(i, false, 20, 20, 9),
	}
	o := api.Ogg{Major: 1, Minor: 3, Count: 2, Flac: f}
	o.Pages = []api.Page{
		{Laces: []int{51}},
		{Laces: []int{255, 255, 255}},
		{Laces: []int{239, 7, quietSize(i, 20)}},
		{},
		{Laces: []int{quietSize(i, 20), quietSize(i, 9)}},
	}
	headed(o.Pages, 5, f)
	return quietPcm(i, 49), o
}

// quietSize is how many bytes a quiet frame of so many samples has.
func quietSize(i api.StreamInfo, size int) int {
	return len(quietText(i, quiet(i, false, 0, size)))
}

// change is one thing done to a file's skeleton, or to its PCM.
type change struct {
	what string
	want api.Errno
	do   func(p *api.PCM, o *api.Ogg)
}

// of is a change of the skeleton alone.
func of(what string, want api.Errno, do func(o *api.Ogg)) change {
	return change{what, want, func(p *api.PCM, o *api.Ogg) { do(o) }}
}

func changesOfOpening() []change {
	l := []change{of("as it is", api.OK, func(o *api.Ogg) {})}
	for _, n := range []int{math.MinInt, -1, 0, 2, 255, 256, 257, math.MaxInt} {
		l = append(l, of("Major", api.ErrRecipe, func(o *api.Ogg) { o.Major = n }))
	}
	for _, n := range []int{0, 1, 7, 127, 128, 255} {
		l = append(l, of("Minor", api.OK, func(o *api.Ogg) { o.Minor = n }))
	}
	for _, n := range []int{math.MinInt, -256, -1, 256, 257, 259, 512, math.MaxInt} {
		l = append(l, of("Minor beyond", api.ErrRecipe, func(o *api.Ogg) { o.Minor = n }))
	}
	for _, n := range []int{math.MinInt, -2, -1, 1, 3, 256, 258, 65534, 65535, 65536, 65538, math.MaxInt} {
		l = append(l, of("Count", api.ErrRecipe, func(o *api.Ogg) { o.Count = n }))
	}
	return append(l, of("Count 0", api.OK, func(o *api.Ogg) { o.Count = 0 }))
}

func changesOfPages() []change {
	l := []change{
		of("no pages", api.ErrRecipe, func(o *api.Ogg) { o.Pages = nil }),
		of("the first page lacks", api.ErrRecipe, func(o *api.Ogg) { o.Pages = o.Pages[1:] }),
		of("the last page lacks", api.ErrRecipe, func(o *api.Ogg) { o.Pages = o.Pages[:4] }),
		of("the first page alone", api.ErrRecipe, func(o *api.Ogg) { o.Pages = o.Pages[:1] }),
		of("the empty page lacks", api.OK, func(o *api.Ogg) { o.Pages = slices.Delete(o.Pages, 3, 4); reheaded(o) }),
		of("an empty page at first", api.ErrRecipe, func(o *api.Ogg) { o.Pages = slices.Insert(o.Pages, 0, api.Page{}); reheaded(o) }),
		of("an empty page at last", api.OK, func(o *api.Ogg) { o.Pages = append(o.Pages, api.Page{}); reheaded(o) }),
		of("an empty page within a packet", api.OK, func(o *api.Ogg) { o.Pages = slices.Insert(o.Pages, 2, api.Page{}); reheaded(o) }),
		of("a packet more", api.ErrRecipe, func(o *api.Ogg) { o.Pages[4].Laces = append(o.Pages[4].Laces, 0) }),
		of("a packet fewer", api.ErrRecipe, func(o *api.Ogg) { o.Pages[4].Laces = o.Pages[4].Laces[:1] }),
		of("two packets in the first page", api.ErrRecipe, func(o *api.Ogg) {
			o.Pages[0].Laces, o.Pages[1].Laces = []int{51, 255, 255, 255, 239}, nil
			o.Pages[2].Laces = o.Pages[2].Laces[1:]
			reheaded(o)
		}),
		of("a part of the second packet in the first page", api.ErrRecipe, func(o *api.Ogg) {
			o.Pages[0].Laces, o.Pages[1].Laces = []int{51, 255}, o.Pages[1].Laces[1:]
			reheaded(o)
		}),
		of("other pages", api.OK, func(o *api.Ogg) {
			laces := slices.Concat(o.Pages[1].Laces, o.Pages[2].Laces, o.Pages[4].Laces)
			o.Pages = []api.Page{o.Pages[0], {Laces: laces}}
			reheaded(o)
		}),
		of("a Serial of all pages", api.OK, func(o *api.Ogg) { headed(o.Pages, 1<<32-1, o.Flac) }),
		of("a Serial of 0", api.OK, func(o *api.Ogg) { headed(o.Pages, 0, o.Flac) }),
		of("a Serial beyond", api.ErrRecipe, func(o *api.Ogg) { headed(o.Pages, 1<<32, o.Flac) }),
		of("a Serial below 0", api.ErrRecipe, func(o *api.Ogg) { headed(o.Pages, -1, o.Flac) }),
		of("the least Serial", api.ErrRecipe, func(o *api.Ogg) { headed(o.Pages, math.MinInt, o.Flac) }),
		of("the pages another way round", api.ErrRecipe, func(o *api.Ogg) { slices.Reverse(o.Pages) }),
	}
	for k := range 5 {
		for _, n := range []int{-1, 0, 1, 20, 40, 49, 50} {
			_, o := threeFrames()
			want := []api.Errno{api.ErrRecipe, api.OK}[btoi(o.Pages[k].Granule == n)]
			l = append(l, of("a Granule", want, func(o *api.Ogg) { o.Pages[k].Granule = n }))
		}
		for flags := -1; flags < 17; flags++ {
			_, o := threeFrames()
			want := []api.Errno{api.ErrRecipe, api.OK}[btoi(o.Pages[k].Flags == flags)]
			l = append(l, of("Flags", want, func(o *api.Ogg) { o.Pages[k].Flags = flags }))
		}
		for by := -1; by < 2; by += 2 {
			l = append(l,
				of("a Serial", api.ErrRecipe, func(o *api.Ogg) { o.Pages[k].Serial += by }),
				of("a Seq", api.ErrRecipe, func(o *api.Ogg) { o.Pages[k].Seq += by }),
				of("a Seq and those behind", api.ErrRecipe, func(o *api.Ogg) {
					for j := k; j < 5; j++ {
						o.Pages[j].Seq += by
					}
				}))
		}
	}
	return l
}

// reheaded gives the pages the heads that they have to have now.
func reheaded(o *api.Ogg) { headed(o.Pages, o.Pages[len(o.Pages)-1].Serial, o.Flac) }

// changesOfLaces are those of each lace.
func changesOfLaces() []change {
	var l []change
	_, o := threeFrames()
	for k, p := range o.Pages {
		for j, was := range p.Laces {
			for _, n := range []int{math.MinInt, -1, 0, was - 1, was + 1, 254, 256, math.MaxInt} {
				l = append(l, of("a lace", api.ErrRecipe, func(o *api.Ogg) { o.Pages[k].Laces[j] = n }))
			}
			l = append(l,
				of("a lace lacks", api.ErrRecipe, func(o *api.Ogg) { o.Pages[k].Laces = slices.Delete(o.Pages[k].Laces, j, j+1) }),
				of("a lace twice", api.ErrRecipe, func(o *api.Ogg) { o.Pages[k].Laces = slices.Insert(o.Pages[k].Laces, j, was) }),
				of("a lace of a full one", api.ErrRecipe, func(o *api.Ogg) { o.Pages[k].Laces = slices.Insert(o.Pages[k].Laces, j, 255) }))
		}
	}
	return l
}

// changesOfStream are those of which flac tells that there is no stream, and some others.
func changesOfStream() []change {
	info := func(do func(i *api.StreamInfo)) func(o *api.Ogg) {
		return func(o *api.Ogg) {
			i := infoOf(o.Flac.Blocks)
			do(&i)
			o.Flac.Blocks[0].Body = layInfo(i)
		}
	}
	digest, _ := pcm.Digest(quietPcm(stream(2, 16, 44100), 49))
	return []change{
		of("no stream", api.ErrRecipe, func(o *api.Ogg) { o.Flac = api.Flac{} }),
		of("no blocks", api.ErrRecipe, func(o *api.Ogg) { o.Flac.Blocks = nil }),
		of("no frames", api.ErrRecipe, func(o *api.Ogg) { o.Flac.Frames = nil }),
		of("a block fewer", api.ErrRecipe, func(o *api.Ogg) { o.Flac.Blocks = o.Flac.Blocks[:2] }),
		of("a block more", api.ErrRecipe, func(o *api.Ogg) { o.Flac.Blocks = append(o.Flac.Blocks, api.Block{Type: 1}) }),
		of("a byte of a block more", api.ErrRecipe, func(o *api.Ogg) { o.Flac.Blocks[2].Body += "x" }),
		of("a byte of a block fewer", api.ErrRecipe, func(o *api.Ogg) { o.Flac.Blocks[1].Body = long[:999] }),
		of("a byte of a block another one", api.OK, func(o *api.Ogg) { o.Flac.Blocks[2].Body = "dap" }),
		of("a type", api.OK, func(o *api.Ogg) { o.Flac.Blocks[2].Type = 126 }),
		of("a type that is none", api.ErrRecipe, func(o *api.Ogg) { o.Flac.Blocks[2].Type = 127 }),
		of("a second STREAMINFO", api.ErrRecipe, func(o *api.Ogg) { o.Flac.Blocks[2] = o.Flac.Blocks[0] }),
		of("Samples 49", api.OK, info(func(i *api.StreamInfo) { i.Samples = 49 })),
		of("Samples 48", api.ErrRecipe, info(func(i *api.StreamInfo) { i.Samples = 48 })),
		of("the Digest", api.OK, info(func(i *api.StreamInfo) { i.Digest = digest })),
		of("a Digest", api.ErrRecipe, info(func(i *api.StreamInfo) { i.Digest = digest[1:] + "x" })),
		of("another Rate", api.ErrRecipe, info(func(i *api.StreamInfo) { i.Rate++ })),
		of("MaxBlock 19", api.ErrRecipe, info(func(i *api.StreamInfo) { i.MaxBlock = 19 })),
		of("a Number", api.ErrRecipe, func(o *api.Ogg) { o.Flac.Frames[1].Number = 2 }),
		of("a Size", api.ErrRecipe, func(o *api.Ogg) { o.Flac.Frames[2].Size = 10 }),
		of("a code that takes as many bytes", api.OK, func(o *api.Ogg) { o.Flac.Frames[1].WidthCode, o.Flac.Frames[1].RateCode = 4, 9 }),
		of("a code that takes fewer", api.ErrRecipe, func(o *api.Ogg) { o.Flac.Frames[1].SizeCode = 6 }),
		of("a Sub that takes more bytes", api.ErrRecipe, func(o *api.Ogg) { o.Flac.Frames[1].Subs[1].Kind = api.SubVerbatim }),
		{"a rate", api.ErrRecipe, func(p *api.PCM, o *api.Ogg) { p.Rate++ }},
		{"a width", api.ErrRecipe, func(p *api.PCM, o *api.Ogg) { p.Width++ }},
		{"a sample fewer", api.ErrRecipe, func(p *api.PCM, o *api.Ogg) { p.Planes = silence(2, 48) }},
		{"a sample more", api.ErrRecipe, func(p *api.PCM, o *api.Ogg) { p.Planes = silence(2, 50) }},
		{"a sample that is not the same", api.ErrRecipe, func(p *api.PCM, o *api.Ogg) { p.Planes = [][]int{p.Planes[0], append(make([]int, 48), 1)} }},
	}
}

// apart gives a file's skeleton lists of its own, so that a change of it is no change of another one.
func apart(o api.Ogg) api.Ogg {
	o.Pages = slices.Clone(o.Pages)
	for k := range o.Pages {
		o.Pages[k].Laces = slices.Clone(o.Pages[k].Laces)
	}
	o.Flac.Blocks, o.Flac.Frames = slices.Clone(o.Flac.Blocks), slices.Clone(o.Flac.Frames)
	for k := range o.Flac.Frames {
		o.Flac.Frames[k].Subs = slices.Clone(o.Flac.Frames[k].Subs)
	}
	return o
}

func TestChangedSkeletons(t *testing.T) {
	for _, c := range slices.Concat(changesOfOpening(), changesOfPages(), changesOfLaces(), changesOfStream()) {
		p, o := threeFrames()
		o = apart(o)
		c.do(&p, &o)
		isBuild(t, c.what, p, o, c.want)
		isLarge(t, c.what, p, o, c.want)
	}
}

// isLarge fails, unless Build of the skeleton with far too much metadata answers ErrLarge, if there is a file of it as it is, and else the same error.
func isLarge(t *testing.T, what string, p api.PCM, o api.Ogg, e api.Errno) {
	t.Helper()
	if e == api.OK {
		e = api.ErrLarge
	}
	refuses(t, what+", and padding", p, padded(o), e)
}

// padded is the skeleton with five blocks that alone are more than a file may have, behind the first one, in pages of their own; what was wrong in it is as wrong as it was.
func padded(o api.Ogg) api.Ogg {
	if len(o.Pages) == 0 || len(o.Flac.Blocks) == 0 {
		return o
	}
	o = apart(o)
	var more []api.Page
	for range 5 {
		o.Flac.Blocks = slices.Insert(o.Flac.Blocks, 1, api.Block{Type: 1, Body: long})
		laces := lacesFor(4 + len(long))
		for flag := 0; len(laces) > 0; flag = 1 {
			n := min(len(laces), 255)
			more = append(more, api.Page{Flags: flag, Serial: o.Pages[0].Serial, Granule: -1, Laces: laces[:n]})
			laces = laces[n:]
		}
		more[len(more)-1].Granule = 0
	}
	for k := range more {
		more[k].Seq = k + 1
	}
	for k := 1; k < len(o.Pages); k++ {
		o.Pages[k].Seq += len(more)
	}
	if len(o.Pages) == 1 {
		more[len(more)-1].Flags += o.Pages[0].Flags & 4
		o.Pages[0].Flags &^= 4
	}
	if o.Count != 0 {
		o.Count += 5
	}
	o.Pages = slices.Insert(o.Pages, 1, more...)
	return o
}

// spoil does one thing to the file, which may be as right as it was.
func (r *numbers) spoil(p *api.PCM, o *api.Ogg) {
	k := r.below(len(o.Pages))
	q := &o.Pages[k]
	switch r.below(14) {
	case 0:
		o.Major += r.below(3) - 1
	case 1:
		o.Minor += r.below(300) - 20
	case 2:
		o.Count += r.below(3) - 1
	case 3:
		q.Flags ^= 1 << r.below(3)
	case 4:
		q.Serial += r.below(3) - 1
	case 5:
		q.Seq += r.below(3) - 1
	case 6:
		q.Granule += r.below(3) - 1
	case 7:
		q.Laces = append(q.Laces, r.below(300)-10)
	case 8:
		if n := len(q.Laces); n > 0 {
			q.Laces[r.below(n)] += r.below(3) - 1
		}
	case 9:
		o.Pages = slices.Delete(o.Pages, k, k+1)
	case 10:
		r.moveLaces(o)
	case 11:
		o.Flac.Blocks[0].Body = swapped(o.Flac.Blocks[0].Body, r.below(34), r.text(1))
	case 12:
		r.spoilFrame(p, o)
	case 13:
		serial := []int{0, 1<<32 - 1, 1 << 32, -1}[r.below(4)]
		for j := range o.Pages {
			o.Pages[j].Serial = serial
		}
	}
}

// moveLaces lets a page begin elsewhere, with the heads that the pages have to have then.
func (r *numbers) moveLaces(o *api.Ogg) {
	if len(o.Pages) < 2 {
		o.Pages = append(o.Pages, api.Page{})
	}
	k := 1 + r.below(len(o.Pages)-1)
	a, b := &o.Pages[k-1], &o.Pages[k]
	both := slices.Concat(a.Laces, b.Laces)
	n := r.below(len(both) + 1)
	a.Laces, b.Laces = slices.Clone(both[:n]), slices.Clone(both[n:])
	headed(o.Pages, o.Pages[0].Serial, o.Flac)
}

func (r *numbers) spoilFrame(p *api.PCM, o *api.Ogg) {
	if len(o.Flac.Frames) == 0 {
		return
	}
	g := &o.Flac.Frames[r.below(len(o.Flac.Frames))]
	switch r.below(4) {
	case 0:
		g.Number += r.below(3) - 1
	case 1:
		g.RateCode = r.below(17) - 1
	case 2:
		plane := p.Planes[r.below(len(p.Planes))]
		plane[r.below(len(plane))] = int(r.next()) >> (64 - p.Width)
	case 3:
		if params := g.Subs[r.below(len(g.Subs))].Rice.Params; len(params) > 0 {
			params[r.below(len(params))] += r.below(3) - 1
		}
	}
}

// Files that may be, and what comes of them by one change: Build answers ErrRecipe for just the skeletons of which no file is, be it too large or not.
func TestBuildOfAnySkeletons(t *testing.T) {
	r := numbers(1621)
	seen := map[api.Errno]int{}
	for n := range 4000 {
		p, o := r.file()
		isBuild(t, "a file", p, o, api.OK)
		r.spoil(&p, &o)
		e := builds(t, p, o)
		if n%16 == 0 {
			isLarge(t, "changed", p, o, e)
		}
		seen[e]++
	}
	if seen[api.OK] < 800 || seen[api.ErrRecipe] < 800 {
		t.Errorf("errors were seen so often: %v", seen)
	}
}

func TestMaxFileOfBuild(t *testing.T) {
	p, o := ofSize(t, 1<<26)
	if s, e := oggflac.Build(p, o); e != api.OK || len(s) != 1<<26 || s != textOf(p, o) {
		t.Fatalf("the largest file is not built: %d", e)
	}
	o.Pages[3].Granule = 0
	refuses(t, "the largest, which is none", p, o, api.ErrRecipe)
	for _, more := range []int{1, 28} {
		p, o := ofSize(t, 1<<26+more)
		refuses(t, "too large", p, o, api.ErrLarge)
		o.Pages[3].Granule = 0
		refuses(t, "too large, which is none", p, o, api.ErrRecipe)
	}
}

// A file can be too large by its pages alone.
func TestPagesTooLarge(t *testing.T) {
	i := stream(1, 8, 8000)
	p := quietPcm(i, 0)
	f := api.Flac{Blocks: []api.Block{{Body: layInfo(i)}}}
	for range 4 {
		f.Blocks = append(f.Blocks, api.Block{Type: 1, Body: long[:16600000]})
	}
	o := laid(f, nil, 0)
	if s, e := oggflac.Build(p, o); e != api.OK || len(s) > 66800000 {
		t.Fatalf("%s, error %d", short(s), e)
	}
	o.Pages = append(o.Pages, make([]api.Page, 20000)...)
	headed(o.Pages, 1, f)
	refuses(t, "20000 pages more", p, o, api.ErrLarge)
	o.Pages[3].Seq--
	refuses(t, "20000 pages more, and a Seq", p, o, api.ErrRecipe)
}

// There may be 2^16 pages, of 255 laces each at most, be the file too large or not.
func TestBoundsOfPages(t *testing.T) {
	p, o := threeFrames()
	pages := o.Pages
	for _, c := range []struct {
		count int
		want  api.Errno
	}{{65536, api.OK}, {65537, api.ErrRecipe}, {70000, api.ErrRecipe}} {
		o.Pages = append(slices.Clone(pages), make([]api.Page, c.count-len(pages))...)
		headed(o.Pages, 5, o.Flac)
		isBuild(t, "many pages", p, o, c.want)
	}
	for _, c := range []struct {
		count int
		want  api.Errno
	}{{1, api.OK}, {254, api.OK}, {255, api.OK}, {256, api.ErrRecipe}, {300, api.ErrRecipe}} {
		q, x := threeFrames()
		x.Flac.Blocks[1].Body = long[:(c.count-1)*255+100]
		x.Pages = slices.Delete(x.Pages, 2, 3)
		x.Pages[1].Laces = lacesFor(len(x.Flac.Blocks[1].Body) + 4)
		x.Pages[2].Laces = []int{7, quietSize(infoOf(x.Flac.Blocks), 20)}
		headed(x.Pages, 5, x.Flac)
		isBuild(t, "many laces", q, x, c.want)
		isLarge(t, "many laces", q, x, c.want)
	}
	// Of a file that is too large the padding has 1295 pages.
	_, o = threeFrames()
	for count, want := range map[int]api.Errno{65536: api.ErrLarge, 65537: api.ErrRecipe} {
		x := padded(o)
		x.Pages = append(x.Pages, make([]api.Page, count-len(x.Pages))...)
		headed(x.Pages, 5, x.Flac)
		refuses(t, "many pages of a file too large", p, x, want)
	}
}

// codedBy is a Sub of Rice codes with this parameter.
func codedBy(k int) api.Sub {
	return api.Sub{Kind: api.SubFixed, Rice: api.Rice{Method: 1, Params: []int{k}, Escapes: []int{-1}}}
}

// loud is a stream of one frame of 4096 samples as far from 0 as can be, coded as if they were small, and how many bytes the frame has: each sample has a code of 2^24 bits 0 or so.
func loud(channels int) (api.PCM, api.Flac, int) {
	i := stream(channels, 24, 44100)
	p := quietPcm(i, 4096)
	for c := range p.Planes {
		p.Planes[c] = slices.Repeat([]int{-1 << 23, 1<<23 - 1}, 2048)
	}
	f := api.Flac{Blocks: []api.Block{{Body: layInfo(i)}}, Frames: quietRow(i, false, 4096)}
	f.Frames[0].Subs = slices.Repeat([]api.Sub{codedBy(0)}, channels)
	each := 8 + 6 + 5 + 2048*(1<<24-1+1) + 2048*(1<<24-2+1)
	return p, f, 4 + 1 + 2 + 1 + (channels*each+7)/8 + 2
}

// A skeleton may ask for a frame that has far more bytes than there is memory: it is told all the same whether its pages are cut for it.
func TestFramesTooLarge(t *testing.T) {
	// 36 codes of 2^24 bits have 72 megabytes, which pages can be cut for.
	i := stream(1, 24, 44100)
	plane := slices.Repeat([]int{-1 << 23}, 36)
	p := quietPcm(i, 36)
	p.Planes = [][]int{plane}
	f := api.Flac{Blocks: []api.Block{{Body: layInfo(i)}}, Frames: quietRow(i, false, 36)}
	f.Frames[0].Subs = []api.Sub{codedBy(0)}
	size := 4 + 1 + 2 + 1 + (8+6+5+36*(1<<24-1+1)+7)/8 + 2
	refuses(t, "a frame too large", p, laid(f, []int{size}, 0), api.ErrLarge)
	for _, n := range []int{-256, -255, -1, 1, 255, 256} {
		refuses(t, "a frame too large, cut elsewhere", p, laid(f, []int{size + n}, 0), api.ErrRecipe)
	}
	refuses(t, "a frame too large, cut as a small one", p, laid(f, []int{100}, 0), api.ErrRecipe)
	o := laid(f, []int{size}, 0)
	o.Pages[1].Granule = 36
	refuses(t, "a frame too large, and a Granule", p, o, api.ErrRecipe)
	o = laid(f, []int{size}, 0)
	o.Count = 1
	refuses(t, "a frame too large, and a Count", p, o, api.ErrRecipe)
	for _, channels := range []int{1, 2, 8} {
		p, f, size := loud(channels)
		refuses(t, "a frame of far too many bytes, cut as a small one", p, laid(f, []int{100}, 0), api.ErrRecipe)
		refuses(t, "a frame of far too many bytes, in too many pages", p, laid(f, []int{min(size, 1<<32)}, 0), api.ErrRecipe)
	}
}

func TestBesideAnErrorOfBuildIsNothing(t *testing.T) {
	p, o := threeFrames()
	refuses(t, "nothing at all", api.PCM{}, api.Ogg{}, api.ErrPcm)
	refuses(t, "no skeleton", p, api.Ogg{}, api.ErrRecipe)
	refuses(t, "the stream alone", p, api.Ogg{Major: 1, Flac: o.Flac}, api.ErrRecipe)
	p.Width = 32
	refuses(t, "a width of 32", p, o, api.ErrUnfit)
}
