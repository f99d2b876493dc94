package flac_test

import (
	"fmt"
	mathbits "math/bits"
	"slices"

	"lacquer/api"
	"lacquer/frame"
	"lacquer/meta"
	"lacquer/pcm"
)

// numbers is a fixed row of numbers that look like chance (SplitMix64).
type numbers uint64

func (r *numbers) next() uint64 {
	*r += 0x9e3779b97f4a7c15
	x := uint64(*r)
	x = (x ^ x>>30) * 0xbf58476d1ce4e5b9
	x = (x ^ x>>27) * 0x94d049bb133111eb
	return x ^ x>>31
}

func (r *numbers) below(n int) int { return int(r.next() % uint64(n)) }

// signed is a number of up to so many bits, small ones as often as great ones.
func (r *numbers) signed(width int) int {
	if width == 0 {
		return 0
	}
	return int(r.next()) >> (64 - 1 - r.below(width))
}

func (r *numbers) text(count int) string {
	s := make([]byte, count)
	for i := range s {
		s[i] = byte(r.next())
	}
	return string(s)
}

// plane is samples of this width: all the same, with wasted bits, small, or any.
func (r *numbers) plane(size, width int) []int {
	wide, wasted := width, 0
	switch r.below(4) {
	case 0:
		return slices.Repeat([]int{r.signed(width)}, size)
	case 1:
		wasted = r.below(width)
	case 2:
		wide = 1 + r.below(width)
	}
	l := make([]int, size)
	for i := range l {
		l[i] = r.signed(wide-min(wasted, wide)) << wasted
		if r.below(30) == 0 {
			l[i] = -1 << (width - 1)
		}
	}
	return l
}

// sub is one that l goes with.
func (r *numbers) sub(l []int) api.Sub {
	wasted := 0
	for wasted < 3 && !slices.ContainsFunc(l, func(n int) bool { return n&(1<<(wasted+1)-1) != 0 }) {
		wasted++
	}
	s := api.Sub{Kind: 1 + r.below(3), Wasted: r.below(wasted + 1)}
	if len(slices.Compact(slices.Clone(l))) == 1 && r.below(2) == 0 {
		s.Kind = api.SubConstant
	}
	switch s.Kind {
	case api.SubFixed:
		s.Order = r.below(min(len(l), 4) + 1)
	case api.SubLpc:
		s.Order = 1 + r.below(min(len(l), 32))
		s.Precision, s.Shift = 1+r.below(8), r.below(16)
		for range s.Order {
			s.Coefs = append(s.Coefs, r.signed(s.Precision))
		}
	default:
		return s
	}
	s.Rice = r.rice(rest(s, l), len(l), s.Order)
	return s
}

// rest is what the Sub's predictor leaves over.
func rest(s api.Sub, l []int) []int {
	coefs := s.Coefs
	if s.Kind == api.SubFixed {
		coefs = [][]int{{}, {1}, {2, -1}, {3, -3, 1}, {4, -6, 4, -1}}[s.Order]
	}
	var more []int
	for i := s.Order; i < len(l); i++ {
		sum := 0
		for j, c := range coefs {
			sum += c * (l[i-1-j] >> s.Wasted)
		}
		more = append(more, l[i]>>s.Wasted-sum>>s.Shift)
	}
	return more
}

// rice is a Rice that takes l.
func (r *numbers) rice(l []int, block, order int) api.Rice {
	q := api.Rice{Method: 1}
	for q.Order < 3 && block%(2<<q.Order) == 0 && block/(2<<q.Order) >= order && r.below(3) > 0 {
		q.Order++
	}
	size := block >> q.Order
	for i := range 1 << q.Order {
		wide := 0
		for _, n := range l[max(i*size-order, 0) : (i+1)*size-order] {
			wide = max(wide, mathbits.Len(uint(n^n>>63)))
		}
		k, e := min(max(wide-r.below(4), 0), 30), -1
		if wide < 31 && r.below(3) == 0 {
			k, e = 0, wide+1
		}
		if e == 1 && onlyNoughts(l) {
			e = 0
		}
		q.Params, q.Escapes = append(q.Params, k), append(q.Escapes, e)
	}
	if slices.Max(q.Params) <= 14 {
		q.Method = r.below(2)
	}
	return q
}

func onlyNoughts(l []int) bool {
	return !slices.ContainsFunc(l, func(n int) bool { return n != 0 })
}

// stereo is the channels that a mode makes of two planes.
func stereo(mode int, planes [][]int) [][]int {
	if mode == api.ModeAlone {
		return planes
	}
	l := [][]int{{}, {}}
	for i, a := range planes[0] {
		b := planes[1][i]
		pair := [][2]int{{}, {a, a - b}, {a - b, b}, {(a + b - (a+b)&1) / 2, a - b}}[mode]
		l[0], l[1] = append(l[0], pair[0]), append(l[1], pair[1])
	}
	return l
}

// frame is one of these samples.
func (r *numbers) frame(i api.StreamInfo, variable bool, number int, planes [][]int) api.Frame {
	f := api.Frame{Variable: variable, Number: number, Size: len(planes[0]), SizeCode: 7}
	if f.Size <= 256 && r.below(2) == 0 {
		f.SizeCode = 6
	}
	if i.Rate <= 65535 && r.below(2) == 0 {
		f.RateCode = 13
	}
	if i.Channels == 2 {
		f.Mode = r.below(4)
	}
	for _, l := range stereo(f.Mode, planes) {
		f.Subs = append(f.Subs, r.sub(l))
	}
	return f
}

// blockSizes are those of some frames: each but the last has from least to most samples; those that are not Variable have as many as one another, but for the last one, which may be shorter.
func (r *numbers) blockSizes(variable bool, least, most int) []int {
	l := slices.Repeat([]int{least + r.below(most-least+1)}, r.below(6))
	for k := range l {
		if variable {
			l[k] = least + r.below(most-least+1)
		}
	}
	if len(l) > 0 && r.below(2) == 0 {
		l[len(l)-1] = 1 + r.below(l[len(l)-1])
	}
	return l
}

// file is a PCM and a skeleton of one file: of whichever channels, width and rate.
func (r *numbers) file() (api.PCM, api.Flac) {
	return r.fileOf(1+r.below(8), 4+r.below(21), 1+r.below(655350))
}

// fileOf is one of these.
func (r *numbers) fileOf(channels, width, rate int) (api.PCM, api.Flac) {
	i := api.StreamInfo{MinBlock: 16 + r.below(3), Rate: rate, Channels: channels, Width: width, MinFrame: r.below(1 << 24), MaxFrame: r.below(1 << 24)}
	variable := r.below(2) == 0
	l := r.blockSizes(variable, i.MinBlock, i.MinBlock+24)
	i.MaxBlock = i.MinBlock + 24 + r.below(1000)
	p := api.PCM{Rate: rate, Channels: channels, Width: width, Planes: make([][]int, channels)}
	var f api.Flac
	for k, size := range l {
		number := k
		if variable {
			number = pcm.Len(p)
		}
		var planes [][]int
		for c := range channels {
			plane := r.plane(size, width)
			planes, p.Planes[c] = append(planes, plane), append(p.Planes[c], plane...)
		}
		f.Frames = append(f.Frames, r.frame(i, variable, number, planes))
	}
	f.Blocks = r.blocks(i, p)
	return p, f
}

// blocks are STREAMINFO, which may leave Samples and Digest out, and at most four more.
func (r *numbers) blocks(i api.StreamInfo, p api.PCM) []api.Block {
	i.Digest = noughts
	if r.below(2) == 0 {
		i.Digest, _ = pcm.Digest(p)
	}
	if r.below(2) == 0 {
		i.Samples = pcm.Len(p)
	}
	l := []api.Block{{Body: layInfo(i)}}
	if r.below(3) == 0 {
		l = append(l, api.Block{Type: 4, Body: r.text(r.below(9))})
	}
	for range r.below(4) {
		l = append(l, api.Block{Type: []int{1, 7, 126}[r.below(3)], Body: r.text(r.below(9))})
	}
	return l
}

// noughts is a Digest that is not looked at.
const noughts = "\x00\x00\x00\x00\x00\x00\x00\x00\x00\x00\x00\x00\x00\x00\x00\x00"

// swapped is s with another text at a place.
func swapped(s string, at int, with string) string {
	return s[:at] + with + s[at+len(with):]
}

// stream is one of frames of 16 to 4608 samples, with no Samples and no Digest.
func stream(channels, width, rate int) api.StreamInfo {
	return api.StreamInfo{MinBlock: 16, MaxBlock: 4608, Rate: rate, Channels: channels, Width: width, Digest: noughts}
}

// quiet is a frame of so many samples, which are all 0 and of whatever width.
func quiet(i api.StreamInfo, variable bool, number, size int) api.Frame {
	return api.Frame{Variable: variable, Number: number, Size: size, SizeCode: 7, Subs: slices.Repeat([]api.Sub{{Kind: api.SubConstant}}, i.Channels)}
}

// quietText is quiet frames as bytes, be their numbers and sizes right or not.
func quietText(i api.StreamInfo, l ...api.Frame) string {
	s := ""
	for _, f := range l {
		t, e := frame.Build(f, i, silence(i.Channels, f.Size))
		if e != api.OK {
			panic(fmt.Sprint("no frame is ", short(f)))
		}
		s += t
	}
	return s
}

// silence is so many samples 0 of so many channels.
func silence(channels, size int) [][]int {
	return slices.Repeat([][]int{make([]int, size)}, channels)
}

// quietRow is quiet frames of these sizes, with the numbers that they have to have.
func quietRow(i api.StreamInfo, variable bool, sizes ...int) []api.Frame {
	var l []api.Frame
	samples := 0
	for k, size := range sizes {
		number := k
		if variable {
			number = samples
		}
		l = append(l, quiet(i, variable, number, size))
		samples += size
	}
	return l
}

// quietPcm is so many samples 0 of the stream.
func quietPcm(i api.StreamInfo, size int) api.PCM {
	return api.PCM{Rate: i.Rate, Channels: i.Channels, Width: i.Width, Planes: silence(i.Channels, size)}
}

// quietFile is a file of quiet frames.
func quietFile(i api.StreamInfo, l ...api.Frame) string {
	return "fLaC" + metadata(api.Block{Body: layInfo(i)}) + quietText(i, l...)
}

// quietFlac is the skeleton of a file of quiet frames.
func quietFlac(i api.StreamInfo, l ...api.Frame) api.Flac {
	return api.Flac{Blocks: []api.Block{{Body: layInfo(i)}}, Frames: l}
}

// infoFault is STREAMINFO of a stream with one thing changed, with Info's error.
type infoFault struct {
	what string
	body string
	want api.Errno
}

// infoFaults are some of each error.
func infoFaults() []infoFault {
	body := layInfo(stream(2, 16, 44100))
	l := []infoFault{
		{what: "a MinBlock of 15", body: swapped(body, 0, "\x00\x0f")},
		{what: "a MinBlock above MaxBlock", body: swapped(body, 0, "\x12\x01")},
		{what: "a Rate of 0", body: swapped(body, 10, "\x00\x00\x02")},
		{what: "33 bytes", body: body[:33]},
		{what: "a MaxBlock of 4609", body: swapped(body, 2, "\x12\x01")},
		{what: "a Width of 32", body: swapped(body, 12, "\x43\xf0")},
		{what: "2^20 + 1 samples", body: swapped(body, 14, "\x00\x10\x00\x01")},
	}
	for k := range l {
		_, l[k].want = meta.Info(l[k].body)
	}
	return l
}
