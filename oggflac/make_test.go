package oggflac_test

import (
	"fmt"
	"slices"
	"strings"

	"lacquer/api"
	"lacquer/frame"
	"lacquer/meta"
	"lacquer/page"
	"lacquer/pcm"
	"lacquer/predict"
	"lacquer/rice"
	"lacquer/search"
)

// numbers is a fixed row of numbers that look like chance (SplitMix64).
type numbers uint64

func (r *numbers) next() uint64 {
	*r += 0x9e3779b97f4a7c15
	x := uint64(*r)
	x = (x ^ x>>30) * 0xbf58476d1ce4e5b9
	x = (x ^ x>>27) * 0x94d049bb133111eb
	return x ^ x>>31
}

func (r *numbers) below(n int) int { return int(r.next() % uint64(n)) }

func (r *numbers) text(count int) string {
	s := make([]byte, count)
	for i := range s {
		s[i] = byte(r.next())
	}
	return string(s)
}

// plane is samples of this width: all the same, small, or any.
func (r *numbers) plane(size, width int) []int {
	wide := 1 + r.below(width)
	if r.below(3) == 0 {
		return slices.Repeat([]int{int(r.next()) >> (64 - wide)}, size)
	}
	l := make([]int, size)
	for i := range l {
		l[i] = int(r.next()) >> (64 - wide)
	}
	return l
}

// sub is one that l goes with.
func (r *numbers) sub(l []int, width int) api.Sub {
	switch r.below(4) {
	case 0:
		return api.Sub{Kind: api.SubVerbatim}
	case 1:
		if s, ok := r.lpc(l); ok {
			return s
		}
	}
	s, _ := search.Sub(l, width, r.below(3))
	return s
}

// lpc is one with coefficients, as chance has them; false, if l goes with none of them.
func (r *numbers) lpc(l []int) (api.Sub, bool) {
	s := api.Sub{Kind: api.SubLpc, Order: 1 + r.below(4), Precision: 4, Shift: r.below(4)}
	for range s.Order {
		s.Coefs = append(s.Coefs, r.below(16)-8)
	}
	rest, _ := predict.Lpc(s.Coefs, s.Shift, l)
	best, n := rice.Best(len(l), s.Order, rest)
	s.Rice = best
	return s, n >= 0
}

// stereo is the channels that a mode makes of two planes, and the widths of their samples.
func stereo(mode, width int, planes [][]int) ([][]int, []int) {
	if mode == api.ModeAlone {
		return planes, slices.Repeat([]int{width}, len(planes))
	}
	l := [][]int{{}, {}}
	for i, a := range planes[0] {
		b := planes[1][i]
		pair := [][2]int{{}, {a, a - b}, {a - b, b}, {(a + b - (a+b)&1) / 2, a - b}}[mode]
		l[0], l[1] = append(l[0], pair[0]), append(l[1], pair[1])
	}
	return l, [][]int{{}, {width, width + 1}, {width + 1, width}, {width, width + 1}}[mode]
}

// frame is one of these samples.
func (r *numbers) frame(i api.StreamInfo, variable bool, number int, planes [][]int) api.Frame {
	f := api.Frame{Variable: variable, Number: number, Size: len(planes[0]), SizeCode: 7}
	if f.Size <= 256 && r.below(2) == 0 {
		f.SizeCode = 6
	}
	if i.Rate <= 65535 && r.below(2) == 0 {
		f.RateCode = 13
	}
	if i.Channels == 2 {
		f.Mode = r.below(4)
	}
	channels, widths := stereo(f.Mode, i.Width, planes)
	for c, l := range channels {
		f.Subs = append(f.Subs, r.sub(l, widths[c]))
	}
	return f
}

// blockSizes are those of some frames: each but the last has from least to most samples; those that are not Variable have as many as one another, but for the last one, which may be shorter.
func (r *numbers) blockSizes(variable bool, least, most int) []int {
	l := slices.Repeat([]int{least + r.below(most-least+1)}, r.below(6))
	for k := range l {
		if variable {
			l[k] = least + r.below(most-least+1)
		}
	}
	if len(l) > 0 && r.below(2) == 0 {
		l[len(l)-1] = 1 + r.below(l[len(l)-1])
	}
	return l
}

// file is a PCM and a skeleton of one file: of whichever channels, width and rate.
func (r *numbers) file() (api.PCM, api.Ogg) {
	return r.fileOf(1+r.below(8), 4+r.below(21), 1+r.below(655350))
}

// fileOf is one of these.
func (r *numbers) fileOf(channels, width, rate int) (api.PCM, api.Ogg) {
	i := api.StreamInfo{MinBlock: 16 + r.below(3), Rate: rate, Channels: channels, Width: width, MinFrame: r.below(1 << 24), MaxFrame: r.below(1 << 24)}
	variable := r.below(2) == 0
	l := r.blockSizes(variable, i.MinBlock, i.MinBlock+24)
	i.MaxBlock = i.MinBlock + 24 + r.below(1000)
	p := api.PCM{Rate: rate, Channels: channels, Width: width, Planes: make([][]int, channels)}
	var f api.Flac
	for k, size := range l {
		number := k
		if variable {
			number = pcm.Len(p)
		}
		var planes [][]int
		for c := range channels {
			plane := r.plane(size, width)
			planes, p.Planes[c] = append(planes, plane), append(p.Planes[c], plane...)
		}
		f.Frames = append(f.Frames, r.frame(i, variable, number, planes))
	}
	f.Blocks = r.blocks(i, p)
	return p, r.ogg(p, f)
}

// blocks are STREAMINFO, which may leave Samples and Digest out, and at most four more.
func (r *numbers) blocks(i api.StreamInfo, p api.PCM) []api.Block {
	i.Digest = noughts
	if r.below(2) == 0 {
		i.Digest, _ = pcm.Digest(p)
	}
	if r.below(2) == 0 {
		i.Samples = pcm.Len(p)
	}
	l := []api.Block{{Body: layInfo(i)}}
	if r.below(3) == 0 {
		l = append(l, api.Block{Type: 4, Body: r.text(r.below(9))})
	}
	for range r.below(4) {
		l = append(l, api.Block{Type: []int{1, 7, 126}[r.below(3)], Body: r.text(r.below(9) * r.below(90))})
	}
	return l
}

// ogg is a skeleton of the stream: its packets lie in pages as chance has it.
func (r *numbers) ogg(p api.PCM, f api.Flac) api.Ogg {
	o := api.Ogg{Major: 1, Minor: r.below(256), Count: r.below(2) * (len(f.Blocks) - 1), Flac: f}
	packets, ok := packetsModel(p, o)
	if !ok {
		panic(fmt.Sprint("no packets are ", short(f)))
	}
	var laces []int
	for _, s := range packets[1:] {
		laces = append(laces, lacesFor(len(s))...)
	}
	o.Pages = []api.Page{{Laces: []int{51}}}
	most := 1 + r.below(255)
	for len(laces) > 0 || r.below(3) == 0 {
		n := min(r.below(most+1), len(laces))
		o.Pages = append(o.Pages, api.Page{Laces: slices.Clone(laces[:n])})
		laces = laces[n:]
	}
	headed(o.Pages, int(r.next()>>32), f)
	return o
}

// lacesFor are those of one packet.
func lacesFor(size int) []int {
	return append(slices.Repeat([]int{255}, size/255), size%255)
}

// noughts is a Digest that is not looked at.
const noughts = "\x00\x00\x00\x00\x00\x00\x00\x00\x00\x00\x00\x00\x00\x00\x00\x00"

// swapped is s with another text at a place.
func swapped(s string, at int, with string) string {
	return s[:at] + with + s[at+len(with):]
}

// stream is one of frames of 16 to 4608 samples, with no Samples and no Digest.
func stream(channels, width, rate int) api.StreamInfo {
	return api.StreamInfo{MinBlock: 16, MaxBlock: 4608, Rate: rate, Channels: channels, Width: width, Digest: noughts}
}

// layInfo is the STREAMINFO that says i, which may be.
func layInfo(i api.StreamInfo) string {
	s, e := meta.LayInfo(i)
	if e != api.OK {
		panic(fmt.Sprint("no STREAMINFO says ", i))
	}
	return s
}

// quiet is a frame of so many samples, which are all 0 and of whatever width.
func quiet(i api.StreamInfo, variable bool, number, size int) api.Frame {
	return api.Frame{Variable: variable, Number: number, Size: size, SizeCode: 7, Subs: slices.Repeat([]api.Sub{{Kind: api.SubConstant}}, i.Channels)}
}

// quietText is a quiet frame as bytes, be its Number and Size right or not.
func quietText(i api.StreamInfo, f api.Frame) string {
	s, e := frame.Build(f, i, silence(i.Channels, f.Size))
	if e != api.OK {
		panic(fmt.Sprint("no frame is ", short(f)))
	}
	return s
}

// silence is so many samples 0 of so many channels.
func silence(channels, size int) [][]int {
	return slices.Repeat([][]int{make([]int, size)}, channels)
}

// quietRow is quiet frames of these sizes, with the numbers that they have to have.
func quietRow(i api.StreamInfo, variable bool, sizes ...int) []api.Frame {
	var l []api.Frame
	samples := 0
	for k, size := range sizes {
		number := k
		if variable {
			number = samples
		}
		l = append(l, quiet(i, variable, number, size))
		samples += size
	}
	return l
}

// quietPcm is so many samples 0 of the stream.
func quietPcm(i api.StreamInfo, size int) api.PCM {
	return api.PCM{Rate: i.Rate, Channels: i.Channels, Width: i.Width, Planes: silence(i.Channels, size)}
}

// many is quiet frames of 4096 samples, 2^20 together, and some more.
func many(i api.StreamInfo, variable bool, more ...int) []api.Frame {
	return quietRow(i, variable, append(slices.Repeat([]int{4096}, 256), more...)...)
}

// first is a first packet with this block.
func first(block string) string { return "\x7fFLAC\x01\x00\x00\x00fLaC" + block }

// block is a block's text, with its type as it stands, the byte 128 or not.
func block(kind int, body string) string {
	n := len(body)
	return string([]byte{byte(kind), byte(n >> 16), byte(n >> 8), byte(n)}) + body
}

// sketch is a file packet by packet, be they right or not.
type sketch struct {
	packets []string
	samples []int              // how many each of them adds to Granule
	cut     func([]int) []int  // changes how many laces each page has, if it is there
	headed  func(l []api.Page) // changes what the pages say, if it is there
	behind  string
}

// sketchOf is one of quiet frames of these sizes, with blocks as they stand.
func sketchOf(i api.StreamInfo, blocks []string, sizes ...int) sketch {
	x := sketch{packets: slices.Clone(blocks), samples: make([]int, len(blocks))}
	x.packets[0] = first(x.packets[0])
	for _, f := range quietRow(i, false, sizes...) {
		x.packets, x.samples = append(x.packets, quietText(i, f)), append(x.samples, f.Size)
	}
	return x
}

// pages are the pages in which the packets lie, the first one alone, and each with all laces that it may have.
func (x sketch) pages() []api.Page {
	var laces, counts []int
	for k, s := range x.packets {
		laces = append(laces, lacesFor(len(s))...)
		if k == 0 {
			counts = append(counts, len(laces))
		}
	}
	for rest := len(laces) - counts[0]; rest > 0; rest -= min(rest, 255) {
		counts = append(counts, min(rest, 255))
	}
	if x.cut != nil {
		counts = x.cut(counts)
	}
	var l []api.Page
	for _, n := range counts {
		l = append(l, api.Page{Laces: laces[:n]})
		laces = laces[n:]
	}
	headed(l, 77, api.Flac{})
	ended, samples := 0, 0
	for k := range l {
		l[k].Granule = -1
		for _, lace := range l[k].Laces {
			if lace < 255 {
				samples += x.samples[ended]
				ended++
				l[k].Granule = samples
			}
		}
	}
	return l
}

func sum(l []int) int {
	n := 0
	for _, m := range l {
		n += m
	}
	return n
}

// text is the sketch as a text.
func (x sketch) text() string {
	l := x.pages()
	if x.headed != nil {
		x.headed(l)
	}
	s, e := page.Build(l, x.packets)
	if e != api.OK {
		panic(fmt.Sprint("no pages are ", short(l)))
	}
	return s + x.behind
}

// plainSketch is one of 16 bits with STREAMINFO and two blocks of padding, and three frames of 20, 20 and 9 samples.
func plainSketch(change ...func(i *api.StreamInfo)) sketch {
	i := stream(2, 16, 44100)
	for _, do := range change {
		do(&i)
	}
	return sketchOf(stream(2, 16, 44100), []string{block(0, layInfo(i)), block(1, "pad"), block(129, "padding")}, 20, 20, 9)
}

// packetBytes is a packet of so many bytes: a block of padding.
func packetBytes(size int, isLast bool) string {
	kind := 1
	if isLast {
		kind = 129
	}
	return block(kind, strings.Repeat("\x00", size-4))
}

// infoFault is STREAMINFO of a stream with one thing changed, with Info's error.
type infoFault struct {
	what string
	body string
	want api.Errno
}

// infoFaults are some of each error.
func infoFaults() []infoFault {
	body := layInfo(stream(2, 16, 44100))
	l := []infoFault{
		{what: "a MinBlock of 15", body: swapped(body, 0, "\x00\x0f")},
		{what: "a MinBlock above MaxBlock", body: swapped(body, 0, "\x12\x01")},
		{what: "a Rate of 0", body: swapped(body, 10, "\x00\x00\x02")},
		{what: "a MaxBlock of 4609", body: swapped(body, 2, "\x12\x01")},
		{what: "a Width of 32", body: swapped(body, 12, "\x43\xf0")},
		{what: "2^20 + 1 samples", body: swapped(body, 14, "\x00\x10\x00\x01")},
	}
	for k := range l {
		_, l[k].want = meta.Info(l[k].body)
	}
	return l
}
