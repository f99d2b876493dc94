package oggflac_test

import (
	"slices"
	"sort"
	"strings"
	"testing"

	"lacquer/api"
	"lacquer/oggflac"
	"lacquer/page"
	"lacquer/pcm"
	"lacquer/sums"
)

// Promise 16.1.

func TestExamplesOfParse(t *testing.T) {
	i := stream(1, 8, 8000)
	packet := "\x7fFLAC\x01\x00\x00\x00fLaC\x80\x00\x00\x22" + layInfo(i)
	if len(packet) != 51 {
		t.Fatalf("%d bytes", len(packet))
	}
	pages := []api.Page{{Flags: 6, Laces: []int{51}}}
	s, _ := page.Build(pages, []string{packet})
	if len(s) != 27+1+51 {
		t.Fatalf("%d bytes", len(s))
	}
	o := api.Ogg{Major: 1, Pages: pages, Flac: api.Flac{Blocks: []api.Block{{Body: layInfo(i)}}}}
	tells(t, s, quietPcm(i, 0), o)
	isParse(t, "a PCM of no samples", s, api.OK)
	s, _ = page.Build(pages, []string{swapped(packet, 5, "\x02")})
	isParse(t, "Major 2", s, api.ErrUnsupported)
	x := plainSketch()
	isParse(t, "three frames", x.text(), api.OK)
	cut := x.packets[3]
	x.packets = slices.Replace(x.packets, 3, 4, cut[:5], cut[5:])
	x.samples = []int{0, 0, 0, 0, 20, 20, 9}
	isParse(t, "a frame cut in two packets", x.text(), api.ErrMalformed)
}

// A whole file, byte by byte: chapter 11's example is its frame.
func TestWholeFile(t *testing.T) {
	page := func(flags, granule, seq, sum string, packets ...string) string {
		s := "OggS\x00" + flags + granule + "\x05\x06\x07\x08" + seq + "\x00\x00\x00" + sum + string([]byte{byte(len(packets))})
		for _, p := range packets {
			s += string([]byte{byte(len(p))})
		}
		return s + strings.Join(packets, "")
	}
	info := "\x00\x10\x10\x00\x00\x00\x0b\x00\x00\x0b\x01\xf4\x00\x70\x00\x00\x00\x10" + noughts
	noGranule := "\x00\x00\x00\x00\x00\x00\x00\x00"
	s := page("\x02", noGranule, "\x00", "\x52\xa4\x7c\x74", "\x7fFLAC\x01\x07\x00\x01fLaC\x00\x00\x00\x22"+info) +
		page("\x04", "\x10\x00\x00\x00\x00\x00\x00\x00", "\x01", "\x36\x1f\xed\x03", "\x81\x00\x00\x02pd", "\xff\xf8\x64\x02\x00\x0f\x49\x00\x00\xfb\xea")
	i := stream(1, 8, 8000)
	i.MaxBlock, i.MinFrame, i.MaxFrame, i.Samples = 4096, 11, 11, 16
	f := api.Flac{
		Blocks: []api.Block{{Body: layInfo(i)}, {Type: 1, Body: "pd"}},
		Frames: []api.Frame{{Size: 16, SizeCode: 6, RateCode: 4, WidthCode: 1, Subs: []api.Sub{{Kind: api.SubConstant}}}},
	}
	pages := []api.Page{{Flags: 2, Serial: 0x08070605, Laces: []int{51}}, {Flags: 4, Serial: 0x08070605, Seq: 1, Granule: 16, Laces: []int{6, 11}}}
	o := api.Ogg{Major: 1, Minor: 7, Count: 1, Pages: pages, Flac: f}
	tells(t, s, quietPcm(i, 16), o)
	if u, e := oggflac.Build(quietPcm(i, 16), o); e != api.OK || u != s {
		t.Errorf("%x %d", u, e)
	}
}

func TestStreamsOfEachKind(t *testing.T) {
	r := numbers(1611)
	for channels := 1; channels <= 8; channels++ {
		for width := 4; width <= 24; width++ {
			for _, rate := range []int{1, 8000, 44100, 96000, 655350} {
				p, o := r.fileOf(channels, width, rate)
				s, _ := buildModel(p, o)
				tells(t, s, p, o)
				parses(t, s)
			}
		}
	}
}

func TestMarks(t *testing.T) {
	s := plainSketch().text()
	for _, mark := range []string{"oggs", "OGGS", "Oggs", "fLaC", "RIFF", "FORM", "LAQ1", "\x7fFLA", "\x00\x00\x00\x00"} {
		isParse(t, "another mark", mark+s[4:], api.ErrUnsupported)
	}
	for n := range 4 {
		isParse(t, "a mark cut off", s[:n], api.ErrUnsupported)
		isParse(t, "a text that goes on too soon", s[n+1:], api.ErrUnsupported)
	}
	for at := range 4 {
		for b := range 256 {
			want := api.ErrUnsupported
			if s[at] == byte(b) {
				want = api.OK
			}
			isParse(t, "a byte of the mark", swapped(s, at, string([]byte{byte(b)})), want)
		}
	}
	for _, ahead := range []string{" ", "\x00", "ID3", "fLaC"} {
		isParse(t, "something ahead", ahead+s, api.ErrUnsupported)
	}
	isParse(t, "hello", "hello", api.ErrUnsupported)
	isParse(t, "the mark alone", "OggS", api.ErrMalformed)
	isParse(t, "the file twice", s+s, api.ErrMalformed)
}

// What page refuses is refused with its error.
func TestPagesThatAreRefused(t *testing.T) {
	x := plainSketch()
	s, l := x.text(), x.pages()
	isParse(t, "a byte behind", s+"x", api.ErrMalformed)
	isParse(t, "a byte fewer", s[:len(s)-1], api.ErrMalformed)
	isParse(t, "a sum", swapped(s, 22, "????"), api.ErrMalformed)
	isParse(t, "another version", swapped(s, 4, "\x01"), api.ErrMalformed)
	size := 27 + len(l[0].Laces) + 51
	other := stripped(l, 78)
	u, _ := page.Build(other, x.packets)
	isParse(t, "another Serial", s[:size]+u[size:], api.ErrUnsupported)
	isParse(t, "the second page alone", s[size:], api.ErrMalformed)
	isParse(t, "the first page alone", s[:size], api.ErrMalformed)
	x.cut = func(counts []int) []int { return slices.Concat([]int{1}, make([]int, 65534), counts[1:]) }
	isParse(t, "as many pages as can be", x.text(), api.OK)
	empty, _ := page.Build([]api.Page{{Flags: 6, Granule: -1, Serial: 77}}, nil)
	isParse(t, "one more", x.text()+empty, api.ErrLarge)
}

// stripped is pages with another Serial.
func stripped(l []api.Page, serial int) []api.Page {
	l = slices.Clone(l)
	for k := range l {
		l[k].Serial = serial
	}
	return l
}

// Pages that have no packets are pages, but no file.
func TestNoPackets(t *testing.T) {
	for n := 1; n < 5; n++ {
		l := make([]api.Page, n)
		headed(l, 1, api.Flac{})
		s, e := page.Build(l, nil)
		if e != api.OK {
			t.Fatal(e)
		}
		isParse(t, "no packets", s, api.ErrMalformed)
	}
}

// The first packet: 51 bytes, of which the marks are as they are.
func TestFirstPackets(t *testing.T) {
	x := plainSketch()
	whole := x.packets[0]
	for n := range 60 {
		x.packets[0] = (whole + "more than this")[:n]
		want := api.ErrMalformed
		if n == 51 {
			want = api.OK
		}
		isParse(t, "its length", x.text(), want)
	}
	x.packets[0] = whole + strings.Repeat("\x00", 255)
	isParse(t, "a longer one", x.text(), api.ErrMalformed)
	for at := range 51 {
		for b := range 256 {
			x.packets[0] = swapped(whole, at, string([]byte{byte(b)}))
			e := parses(t, x.text())
			isMark, isMajor := at < 5 || at >= 9 && at < 13, at == 5
			same := whole[at] == byte(b)
			if isMark && (e == api.OK) != same || isMark && !same && e != api.ErrMalformed {
				t.Fatalf("byte %d of a mark as %d: error %d", at, b, e)
			}
			if isMajor && e != []api.Errno{api.ErrUnsupported, api.OK}[btoi(same)] {
				t.Fatalf("Major %d: error %d", b, e)
			}
			if at == 6 && e != api.OK {
				t.Fatalf("Minor %d: error %d", b, e)
			}
		}
	}
}

func btoi(b bool) int {
	if b {
		return 1
	}
	return 0
}

// Minor is told as it stands.
func TestMinors(t *testing.T) {
	x := plainSketch()
	for n := range 256 {
		x.packets[0] = swapped(x.packets[0], 6, string([]byte{byte(n)}))
		_, o, e := oggflac.Parse(x.text())
		if e != api.OK || o.Minor != n || o.Major != 1 {
			t.Fatalf("Minor %d: %d, error %d", n, o.Minor, e)
		}
	}
}

// counted is a file with so many other blocks, and this Count.
func counted(others, count int) sketch {
	i := stream(1, 8, 8000)
	blocks := []string{block(0, layInfo(i))}
	for range others {
		blocks = append(blocks, block(1, ""))
	}
	last := blocks[others]
	blocks[others] = swapped(last, 0, string([]byte{last[0] + 128}))
	x := sketchOf(i, blocks, 16)
	x.packets[0] = swapped(x.packets[0], 7, string([]byte{byte(count >> 8), byte(count)}))
	return x
}

func TestCounts(t *testing.T) {
	for _, others := range []int{0, 1, 2, 3, 254, 255, 256, 257, 511, 512, 1023} {
		for _, count := range []int{0, 1, 2, 3, 4, 253, 254, 255, 256, 257, 258, 511, 512, 513, 768, others - 1, others + 1, 1022, 1023, 1024, 32767, 32768, 65535} {
			count = max(count, 0)
			want := []api.Errno{api.ErrMalformed, api.OK}[btoi(count == 0 || count == others)]
			isParse(t, "Count", counted(others, count).text(), want)
		}
	}
	for _, others := range []int{1024, 1025, 65534, 65535, 65536, 65537} {
		for _, count := range []int{0, 1, 1024, others - 1, others, others + 1} {
			isParse(t, "too many blocks", counted(others, count).text(), api.ErrLarge)
		}
	}
}

// One packet alone has the byte 128: the last block's.
func TestLastBlocks(t *testing.T) {
	i := stream(2, 16, 44100)
	set := func(sizes []int, kinds ...int) string {
		blocks := []string{block(kinds[0], layInfo(i))}
		for _, kind := range kinds[1:] {
			blocks = append(blocks, block(kind, "pad"))
		}
		return sketchOf(i, blocks, sizes...).text()
	}
	for _, sizes := range [][]int{nil, {20, 20, 9}} {
		isParse(t, "of one", set(sizes, 128), api.OK)
		isParse(t, "none of one", set(sizes, 0), api.ErrMalformed)
		isParse(t, "of three", set(sizes, 0, 1, 129), api.OK)
		isParse(t, "none of three", set(sizes, 0, 1, 1), api.ErrMalformed)
		isParse(t, "the first of three", set(sizes, 128, 1, 1), api.ErrMalformed)
		isParse(t, "the second of three", set(sizes, 0, 129, 1), api.ErrMalformed)
		isParse(t, "the last two", set(sizes, 0, 129, 129), api.ErrMalformed)
		isParse(t, "the first and the last", set(sizes, 128, 1, 129), api.ErrMalformed)
		isParse(t, "all", set(sizes, 128, 129, 129), api.ErrMalformed)
	}
	// Without a last block nothing is said of what STREAMINFO says.
	for _, c := range infoFaults() {
		isParse(t, c.what, sketchOf(i, []string{block(0, c.body), block(1, "pad")}).text(), api.ErrMalformed)
		isParse(t, c.what+", a last block", sketchOf(i, []string{block(0, c.body), block(129, "pad")}).text(), c.want)
	}
}

// Each packet of the metadata is just one block.
func TestPacketsOfMetadata(t *testing.T) {
	i := stream(2, 16, 44100)
	info, pad, end := block(0, layInfo(i)), block(1, "pad"), block(129, "padding")
	for _, c := range []struct {
		what   string
		blocks []string
		want   api.Errno
	}{
		{"as they are", []string{info, pad, end}, api.OK},
		{"a byte fewer", []string{info, pad[:6], end}, api.ErrMalformed},
		{"a byte fewer of the last one", []string{info, pad, end[:10]}, api.ErrMalformed},
		{"a byte more", []string{info, pad + "\x00", end}, api.ErrMalformed},
		{"a byte more of the last one", []string{info, pad, end + "\x00"}, api.ErrMalformed},
		{"a byte moved on", []string{info, pad[:6], pad[6:] + end}, api.ErrMalformed},
		{"a byte moved back", []string{info, pad + end[:1], end[1:]}, api.ErrMalformed},
		{"two blocks in one packet", []string{info, pad + end}, api.ErrMalformed},
		{"two blocks in one packet, and a last one", []string{info, pad + pad, end}, api.ErrMalformed},
		{"the last one in another's packet", []string{info, pad + end, end}, api.ErrMalformed},
		{"two last ones in one packet", []string{info, pad, end + end}, api.ErrMalformed},
		{"a block in two packets", []string{info, pad[:4], pad[4:], end}, api.ErrMalformed},
		{"the last one in two packets", []string{info, pad, end[:4], end[4:]}, api.ErrMalformed},
		{"a head cut off", []string{info, pad, end[:3]}, api.ErrMalformed},
		{"a packet of no bytes", []string{info, "", pad, end}, api.ErrMalformed},
		{"a packet of no bytes ahead of the last one", []string{info, pad, "", end}, api.ErrMalformed},
		{"a packet of no bytes behind the last one", []string{info, pad, end, ""}, api.ErrMalformed},
		{"one byte, the last one's", []string{info, pad, "\x81"}, api.ErrMalformed},
		{"a block of no bytes", []string{info, block(1, ""), end}, api.OK},
		{"the last one of no bytes", []string{info, pad, block(129, "")}, api.OK},
	} {
		isParse(t, c.what, sketchOf(i, c.blocks).text(), c.want)
		isParse(t, c.what, sketchOf(i, c.blocks, 20, 20, 9).text(), c.want)
	}
}

// What meta refuses is refused with its error.
func TestMetadataThatIsRefused(t *testing.T) {
	i := stream(2, 16, 44100)
	seen := map[api.Errno]int{}
	for _, c := range infoFaults() {
		seen[c.want]++
		isParse(t, c.what, sketchOf(i, []string{block(128, c.body)}).text(), c.want)
		isParse(t, c.what+", with frames", sketchOf(i, []string{block(0, c.body), block(129, "pad")}, 20).text(), c.want)
		isParse(t, c.what+", and a byte more behind", sketchOf(i, []string{block(0, c.body), block(129, "pad") + "x"}).text(), c.want)
	}
	if seen[api.ErrMalformed] == 0 || seen[api.ErrUnsupported] == 0 || seen[api.ErrLarge] == 0 || seen[api.OK] != 0 {
		t.Errorf("errors of STREAMINFO were seen so often: %v", seen)
	}
	info := block(0, layInfo(i))
	for what, blocks := range map[string][]string{
		"no STREAMINFO":          {block(1, layInfo(i)), block(129, "")},
		"a STREAMINFO too long":  {swapped(info, 3, "\x23"), block(129, "")},
		"a STREAMINFO too short": {swapped(info, 3, "\x21"), block(129, "")},
		"two STREAMINFO":         {info, block(128, layInfo(i))},
		"two comments":           {info, block(4, ""), block(132, "")},
		"type 127":               {info, block(255, "")},
		"type 127 in the middle": {info, block(127, ""), block(129, "")},
		"a SEEKTABLE":            {info, block(131, strings.Repeat("s", 17))},
	} {
		isParse(t, what, sketchOf(i, blocks).text(), api.ErrMalformed)
		isParse(t, what, sketchOf(i, blocks, 20).text(), api.ErrMalformed)
	}
}

// Each packet behind the metadata is just one frame.
func TestPacketsOfFrames(t *testing.T) {
	x := plainSketch()
	cut := func(what string, want api.Errno, packets []string, samples ...int) {
		t.Helper()
		y := x
		y.packets, y.samples = slices.Concat(x.packets[:3], packets), slices.Concat([]int{0, 0, 0}, samples)
		isParse(t, what, y.text(), want)
	}
	a, b, c := x.packets[3], x.packets[4], x.packets[5]
	cut("as they are", api.OK, []string{a, b, c}, 20, 20, 9)
	cut("two frames in one packet", api.ErrMalformed, []string{a + b, c}, 40, 9)
	cut("the last two in one packet", api.ErrMalformed, []string{a, b + c}, 20, 29)
	cut("all in one packet", api.ErrMalformed, []string{a + b + c}, 49)
	for n := range len(b) + 1 {
		cut("a frame in two packets", api.ErrMalformed, []string{a, b[:n], b[n:], c}, 20, 0, 20, 9)
		cut("a frame in two packets, told by the first", api.ErrMalformed, []string{a, b[:n], b[n:], c}, 20, 20, 0, 9)
	}
	for n := 1; n < len(a); n++ {
		cut("the cuts moved", api.ErrMalformed, []string{a[:n], a[n:] + b, c}, 20, 20, 9)
		cut("the cuts moved", api.ErrMalformed, []string{a + b[:n], b[n:], c}, 20, 20, 9)
		cut("as many packets, one of them of two frames", api.ErrMalformed, []string{a + b, c[:n], c[n:]}, 40, 0, 9)
	}
	cut("a packet of no bytes at first", api.ErrMalformed, []string{"", a, b, c}, 0, 20, 20, 9)
	cut("a packet of no bytes at last", api.ErrMalformed, []string{a, b, c, ""}, 20, 20, 9, 0)
	cut("a byte more", api.ErrMalformed, []string{a, b + "x", c}, 20, 20, 9)
	cut("a byte more at last", api.ErrMalformed, []string{a, b, c + "\x00"}, 20, 20, 9)
	cut("a byte fewer", api.ErrMalformed, []string{a, b, c[:len(c)-1]}, 20, 20, 9)
	cut("the frames another way round", api.ErrMalformed, []string{b, a, c}, 20, 20, 9)
	cut("the second one lacks", api.ErrMalformed, []string{a, c}, 20, 9)
	cut("a block behind the frames", api.ErrMalformed, []string{a, b, c, block(1, "pad")}, 20, 20, 9, 0)
	cut("a block ahead of the frames", api.ErrMalformed, []string{block(1, "pad"), a, b, c}, 0, 20, 20, 9)
	cut("no frames", api.OK, nil)
	cut("one frame", api.OK, []string{a}, 20)
}

// tooLong is the head of a frame of 8192 samples, with its sum.
const tooLong = "\xff\xf8\xd0\x18\x00"

// What Frames refuses is refused with its error, however its packets are cut.
func TestFramesThatAreRefused(t *testing.T) {
	x := plainSketch()
	i := stream(2, 16, 44100)
	long := tooLong + sum8(tooLong)
	for _, packets := range [][]string{{long}, {x.packets[3], swapped(long, 4, "\x01")}, {long[:3], long[3:]}, {x.packets[3] + x.packets[4] + "\xff\xf8\xd0\x18\x02" + sum8("\xff\xf8\xd0\x18\x02")}} {
		y := x
		y.packets, y.samples = slices.Concat(x.packets[:3], packets), make([]int, 3+len(packets))
		e := parses(t, y.text())
		if len(packets[0]) != len(x.packets[3]) && e != api.ErrUnsupported {
			t.Fatalf("a frame too long: error %d", e)
		}
	}
	frames := func(l []api.Frame) sketch {
		y := x
		y.packets, y.samples = slices.Clone(x.packets[:3]), make([]int, 3)
		for _, f := range l {
			y.packets, y.samples = append(y.packets, quietText(i, f)), append(y.samples, f.Size)
		}
		return y
	}
	isParse(t, "as many samples as can be", frames(many(i, false)).text(), api.OK)
	isParse(t, "one more", frames(many(i, false, 1)).text(), api.ErrLarge)
	y := frames(many(i, false, 1))
	y.packets = append(y.packets[:3], strings.Join(y.packets[3:], ""))
	y.samples = y.samples[:4]
	isParse(t, "one more, all in one packet", y.text(), api.ErrLarge)
	isParse(t, "a Number", frames(slices.Delete(quietRow(i, false, 16, 16, 16), 1, 2)).text(), api.ErrMalformed)
	isParse(t, "a short one in the middle", frames(quietRow(i, true, 16, 15, 16)).text(), api.ErrMalformed)
}

// sum8 is the Crc8 of s.
func sum8(s string) string {
	n := 0
	for _, b := range []byte(s) {
		n ^= int(b)
		for range 8 {
			n <<= 1
			if n > 255 {
				n ^= 0x107
			}
		}
	}
	return string([]byte{byte(n)})
}

// The first page has the first packet alone.
func TestFirstPages(t *testing.T) {
	for _, c := range []struct {
		what   string
		counts []int
		want   api.Errno
	}{
		{"as it is", []int{1, 5}, api.OK},
		{"a page each", []int{1, 1, 1, 1, 1, 1}, api.OK},
		{"two packets", []int{2, 4}, api.ErrMalformed},
		{"the whole metadata", []int{3, 3}, api.ErrMalformed},
		{"all", []int{6}, api.ErrMalformed},
		{"none", []int{0, 1, 5}, api.ErrMalformed},
		{"none, and none", []int{0, 0, 6}, api.ErrMalformed},
		{"none, the second one has two", []int{0, 2, 4}, api.ErrMalformed},
		{"none behind it", []int{1, 0, 5}, api.OK},
		{"none at last", []int{1, 5, 0}, api.OK},
		{"none in between", []int{1, 2, 0, 0, 3, 0}, api.OK},
	} {
		x := plainSketch()
		x.cut = func([]int) []int { return c.counts }
		isParse(t, c.what, x.text(), c.want)
	}
	// A second packet that begins in the first page.
	x := sketchOf(stream(1, 8, 8000), []string{block(0, layInfo(stream(1, 8, 8000))), packetBytes(600, true)}, 16)
	for n := 1; n < 5; n++ {
		x.cut = func([]int) []int { return []int{n, 5 - n} }
		isParse(t, "a part of the second packet", x.text(), []api.Errno{api.ErrMalformed, api.OK}[btoi(n == 1)])
	}
}

// Of each page Granule is just how many samples there are by its end, or -1.
func TestGranules(t *testing.T) {
	i := stream(2, 16, 44100)
	x := sketchOf(i, []string{block(0, layInfo(i)), packetBytes(900, false), packetBytes(255, true)}, 20, 20, 9)
	// 900 bytes: 4 laces, 255 bytes: 2; each frame 1.
	for _, counts := range [][]int{{1, 9}, {1, 3, 1, 1, 1, 1, 1, 1}, {1, 4, 2, 3}, {1, 2, 2, 2, 2, 1}, {1, 5, 1, 3}, {1, 0, 2, 0, 2, 0, 2, 0, 3, 0}, {1, 6, 2, 1}} {
		x.cut = func([]int) []int { return counts }
		x.headed = nil
		isParse(t, "as they are", x.text(), api.OK)
		for k := range counts {
			for _, n := range []int{-1, 0, 1, 9, 19, 20, 21, 39, 40, 41, 48, 49, 50, 1 << 32, 1<<63 - 1} {
				x.headed = func(l []api.Page) { l[k].Granule = n }
				want := api.ErrMalformed
				if x.pages()[k].Granule == n {
					want = api.OK
				}
				isParse(t, "a Granule", x.text(), want)
			}
			for _, by := range []int{-1, 1} {
				x.headed = func(l []api.Page) {
					for j := k; j < len(l); j++ {
						l[j].Granule = max(l[j].Granule+by, -1)
					}
				}
				e := parses(t, x.text())
				if wasNone := x.pages()[k].Granule == -1 && by < 0 && k == len(counts)-1; e == api.OK && !wasNone {
					t.Fatalf("all Granules from page %d on moved by %d: error %d", k, by, e)
				}
			}
		}
	}
}

// A Granule counts samples, be the frames Variable or not, and whatever Samples says.
func TestGranulesOfVariableFrames(t *testing.T) {
	i := stream(1, 8, 8000)
	x := sketchOf(i, []string{block(128, layInfo(i))})
	for _, f := range quietRow(i, true, 16, 18, 17, 5) {
		x.packets, x.samples = append(x.packets, quietText(i, f)), append(x.samples, f.Size)
	}
	x.cut = func([]int) []int { return []int{1, 1, 1, 1, 1} }
	p, o, e := oggflac.Parse(x.text())
	if e != api.OK || pcm.Len(p) != 56 {
		t.Fatal(e)
	}
	for k, want := range []int{0, 16, 34, 51, 56} {
		if o.Pages[k].Granule != want {
			t.Errorf("page %d: %d", k, o.Pages[k].Granule)
		}
	}
	x.samples = []int{0, 1, 1, 1, 1}
	isParse(t, "packets counted", x.text(), api.ErrMalformed)
}

// Samples may be 0, or how many there are; Digest noughts, or the right one.
func TestSamplesAndDigests(t *testing.T) {
	for n := range 100 {
		x := plainSketch(func(i *api.StreamInfo) { i.Samples = n })
		want := []api.Errno{api.ErrMalformed, api.OK}[btoi(n == 0 || n == 49)]
		isParse(t, "Samples", x.text(), want)
	}
	for _, n := range []int{98, 49 + 1<<16, 1 << 20} {
		isParse(t, "Samples", plainSketch(func(i *api.StreamInfo) { i.Samples = n }).text(), api.ErrMalformed)
	}
	right, _ := pcm.Digest(quietPcm(stream(2, 16, 44100), 49))
	other, _ := pcm.Digest(quietPcm(stream(2, 16, 44100), 48))
	said := func(what, digest string, want api.Errno) {
		t.Helper()
		isParse(t, what, plainSketch(func(i *api.StreamInfo) { i.Digest = digest }).text(), want)
	}
	said("the right one", right, api.OK)
	said("noughts", noughts, api.OK)
	said("another one", other, api.ErrMalformed)
	for at := range 16 {
		said("a byte changed", swapped(right, at, string([]byte{right[at] + 1})), api.ErrMalformed)
		said("noughts but for a byte", swapped(noughts, at, "\x01"), api.ErrMalformed)
	}
	x := plainSketch(func(i *api.StreamInfo) { i.Samples = 1 })
	x.packets, x.samples = x.packets[:3], x.samples[:3]
	isParse(t, "Samples of no frames", x.text(), api.ErrMalformed)
}

// Packets of many bytes, which go over pages.
func TestLongPackets(t *testing.T) {
	i := stream(1, 8, 8000)
	for _, size := range []int{4, 5, 253, 254, 255, 256, 257, 509, 510, 511, 65024, 65025, 65026, 65279, 65280, 65281, 130050, 200000} {
		for _, counts := range []func([]int) []int{nil, ones} {
			x := sketchOf(i, []string{block(0, layInfo(i)), packetBytes(size, false), packetBytes(size, true)}, 16, 16)
			x.cut = counts
			isParse(t, "a long packet", x.text(), api.OK)
		}
	}
	r := numbers(1612)
	p := api.PCM{Rate: 44100, Channels: 8, Width: 24}
	for range 8 {
		p.Planes = append(p.Planes, r.plane(3*4608, 24))
	}
	f := api.Flac{Blocks: []api.Block{{Body: layInfo(stream(8, 24, 44100))}}, Frames: quietRow(stream(8, 24, 44100), false, 4608, 4608, 4608)}
	for k := range f.Frames {
		for c := range f.Frames[k].Subs {
			f.Frames[k].Subs[c].Kind = api.SubVerbatim
		}
	}
	for range 20 {
		o := r.ogg(p, f)
		s, _ := buildModel(p, o)
		if len(s) < 3*65025 {
			t.Fatalf("%d bytes", len(s))
		}
		tells(t, s, p, o)
	}
}

// ones are pages of one lace each.
func ones(counts []int) []int {
	return slices.Repeat([]int{1}, sum(counts))
}

// laid is what Lay would tell of a stream of frames that have so many bytes, if no file were too large, with some pages without laces behind.
func laid(f api.Flac, frames []int, empty int) api.Ogg {
	o := api.Ogg{Major: 1, Count: len(f.Blocks) - 1, Flac: f}
	var lengths []int
	for _, b := range f.Blocks {
		lengths = append(lengths, 4+len(b.Body))
	}
	lengths[0] += 13
	for _, laces := range page.Lace(append(lengths, frames...), 255) {
		o.Pages = append(o.Pages, api.Page{Laces: laces})
	}
	o.Pages = append(o.Pages, make([]api.Page, empty)...)
	headed(o.Pages, 1, f)
	return o
}

// long is a Body that is as long as can be.
var long = strings.Repeat("\x00", 1<<24-1)

// filled is the file with so many bytes of padding in five blocks.
func filled(padding, empty int) (api.PCM, api.Ogg, int) {
	i := stream(1, 8, 8000)
	f := api.Flac{Blocks: []api.Block{{Body: layInfo(i)}}, Frames: quietRow(i, false, 16, 16)}
	for range 5 {
		n := min(padding, len(long))
		f.Blocks = append(f.Blocks, api.Block{Type: 1, Body: long[:n]})
		padding -= n
	}
	each := len(quietText(i, f.Frames[0]))
	o := laid(f, []int{each, each}, empty)
	size := 0
	for _, p := range o.Pages {
		size += 27 + len(p.Laces) + sum(p.Laces)
	}
	return quietPcm(i, 32), o, size
}

// ofSize is a file that has so many bytes. A byte of padding more can be a lace or a page more; then another page without laces helps.
func ofSize(t *testing.T, size int) (api.PCM, api.Ogg) {
	t.Helper()
	for empty := range 3 {
		padding := sort.Search(size, func(n int) bool {
			_, _, got := filled(n, empty)
			return got >= size
		})
		if p, o, got := filled(padding, empty); got == size {
			return p, o
		}
	}
	t.Fatalf("no file has %d bytes", size)
	return api.PCM{}, api.Ogg{}
}

// textOf is a file as a text, however long.
func textOf(p api.PCM, o api.Ogg) string {
	packets, _ := packetsModel(p, o)
	s, _ := page.Build(o.Pages, packets)
	return s
}

func TestMaxFile(t *testing.T) {
	p, o := ofSize(t, 1<<26)
	s := textOf(p, o)
	if len(s) != 67108864 {
		t.Fatalf("%d bytes", len(s))
	}
	tells(t, s, p, o)
	isParse(t, "one byte behind", s+"\x00", api.ErrLarge)
	isParse(t, "without the last byte", s[:len(s)-1], api.ErrMalformed)
	isParse(t, "another mark", "fLaC"+s[4:], api.ErrUnsupported)
	isParse(t, "another mark, and a byte more", "fLaC"+s[4:]+"\x00", api.ErrLarge)
	s = textOf(ofSize(t, 1<<26+1))
	if len(s) != 67108865 {
		t.Fatalf("%d bytes", len(s))
	}
	isParse(t, "one byte more within", s, api.ErrLarge)
}

// parseFault is one thing that is wrong in a file; step is where the chapter names it, so that of two the lower one is told.
type parseFault struct {
	what string
	step int
	want api.Errno
	do   func(x *sketch)
}

// ofInfo puts another STREAMINFO into the first packet.
func ofInfo(body string) func(x *sketch) {
	return func(x *sketch) { x.packets[0] = x.packets[0][:17] + body }
}

func parseFaults() []parseFault {
	l := []parseFault{
		{"another Serial", 1, api.ErrUnsupported, nil},
		{"a first packet of 52 bytes", 2, api.ErrMalformed, func(x *sketch) { x.packets[0] += "x" }},
		{"a mark", 2, api.ErrMalformed, func(x *sketch) { x.packets[0] = swapped(x.packets[0], 1, "f") }},
		{"the other mark", 2, api.ErrMalformed, func(x *sketch) { x.packets[0] = swapped(x.packets[0], 9, "FLAC") }},
		{"Major 2", 3, api.ErrUnsupported, func(x *sketch) { x.packets[0] = swapped(x.packets[0], 5, "\x02") }},
		{"Major 0", 3, api.ErrUnsupported, func(x *sketch) { x.packets[0] = swapped(x.packets[0], 5, "\x00") }},
		{"no last block", 4, api.ErrMalformed, func(x *sketch) { x.packets, x.samples = x.packets[:2], x.samples[:2] }},
		{"a wrong block", 6, api.ErrMalformed, func(x *sketch) { x.packets[1] = block(2, "abc") }},
		{"a packet with a byte more", 7, api.ErrMalformed, func(x *sketch) { x.packets[1] += "\x00" }},
		{"two blocks in one packet", 7, api.ErrMalformed, func(x *sketch) { x.packets[1] += block(1, "more") }},
		{"a Count", 8, api.ErrMalformed, func(x *sketch) { x.packets[0] = swapped(x.packets[0], 7, "\x01") }},
		{"a frame too long", 9, api.ErrUnsupported, func(x *sketch) { x.packets[3] = tooLong + sum8(tooLong) }},
		{"a packet of two frames", 10, api.ErrMalformed, func(x *sketch) {
			x.packets = slices.Concat(x.packets[:3], []string{x.packets[3] + x.packets[4]}, x.packets[5:])
		}},
		{"two packets in the first page", 11, api.ErrMalformed, func(x *sketch) { x.cut = func([]int) []int { return []int{2, len(x.packets) - 2} } }},
		{"a Granule", 11, api.ErrMalformed, func(x *sketch) { x.headed = func(l []api.Page) { l[0].Granule = 1 } }},
	}
	for _, c := range infoFaults() {
		l = append(l, parseFault{c.what, 5, c.want, ofInfo(c.body)})
	}
	l = append(l, parseFault{"Samples", 12, api.ErrMalformed, ofInfo(layInfo(api.StreamInfo{MinBlock: 16, MaxBlock: 4608, Rate: 44100, Channels: 2, Width: 16, Samples: 48, Digest: noughts}))})
	return l
}

// Two faults in one file: the first that is seen is told.
func TestTwoFaults(t *testing.T) {
	// The page behind the last one has another Serial, or the file has a byte too many.
	end := func(x *sketch, do func(x *sketch)) bool {
		if do == nil {
			empty, _ := page.Build([]api.Page{{Flags: 6, Granule: -1, Serial: 78}}, nil)
			x.behind = empty
			return true
		}
		do(x)
		return false
	}
	for _, a := range parseFaults() {
		x := plainSketch()
		end(&x, a.do)
		isParse(t, a.what, x.text(), a.want)
		for _, b := range parseFaults() {
			if b.step <= a.step {
				continue
			}
			x := plainSketch()
			// What takes packets away comes behind what changes them.
			if a.step == 4 && b.step > 8 {
				continue
			}
			end(&x, b.do)
			end(&x, a.do)
			isParse(t, a.what+", and "+b.what, x.text(), a.want)
			isParse(t, "another mark, "+a.what+", and "+b.what, "ogg"+x.text()[3:], api.ErrUnsupported)
		}
	}
}

// More blocks than there may be, and one more fault.
func TestTooManyBlocks(t *testing.T) {
	x := counted(1024, 0)
	isParse(t, "1025 blocks", x.text(), api.ErrLarge)
	x.packets[0] = swapped(x.packets[0], 5, "\x02")
	isParse(t, "and Major 2", x.text(), api.ErrUnsupported)
	x = counted(1024, 5)
	isParse(t, "and a wrong Count", x.text(), api.ErrLarge)
	x.packets[1024] = block(1, "")
	x.packets, x.samples = x.packets[:1025], x.samples[:1025]
	isParse(t, "and no last block", x.text(), api.ErrMalformed)
	x = counted(1025, 0)
	x.packets = slices.Replace(x.packets, 1, 3, block(1, "")+block(1, ""))
	x.samples = x.samples[1:]
	isParse(t, "and two blocks in one packet", x.text(), api.ErrLarge)
	x = counted(1023, 0)
	x.packets = slices.Replace(x.packets, 1, 3, block(1, "")+block(1, ""))
	x.samples = x.samples[1:]
	isParse(t, "no more than there may be, two blocks in one packet", x.text(), api.ErrMalformed)
	x = counted(1025, 0)
	x.packets[1024] = block(2, "abc")
	isParse(t, "and a wrong block that is too many itself", x.text(), api.ErrLarge)
	x.packets[1023] = block(2, "abc")
	isParse(t, "and a wrong block ahead", x.text(), api.ErrMalformed)
}

func TestFilesCutOff(t *testing.T) {
	r := numbers(1613)
	for range 40 {
		p, o := r.fileOf(1+r.below(2), 4+r.below(21), 44100)
		s, _ := buildModel(p, o)
		for n := range len(s) {
			parses(t, s[:n])
		}
	}
	s := plainSketch().text()
	for n := range len(s) {
		isParse(t, "cut off", s[:n], []api.Errno{api.ErrMalformed, api.ErrUnsupported}[btoi(n < 4)])
	}
}

// summed is a text of pages with the sums that they have to have, as far as there are pages.
func summed(s string) string {
	at := 0
	for at+27 <= len(s) {
		end := at + 27 + int(s[at+26])
		for k := at + 27; k < min(at+27+int(s[at+26]), len(s)); k++ {
			end += int(s[k])
		}
		if end > len(s) {
			break
		}
		n := sums.Ogg(s[at:at+22] + "\x00\x00\x00\x00" + s[at+26:end])
		s = swapped(s, at+22, string([]byte{byte(n), byte(n >> 8), byte(n >> 16), byte(n >> 24)}))
		at = end
	}
	return s
}

// Each byte of a file another one, with the sum as it was, and with the right one.
func TestEachByteChanged(t *testing.T) {
	r := numbers(1614)
	seen := map[api.Errno]int{}
	for range 25 {
		p, o := r.fileOf(1+r.below(3), 4+r.below(21), 1+r.below(655350))
		s, _ := buildModel(p, o)
		if summed(s) != s {
			t.Fatal("the sums are others")
		}
		for at := range len(s) {
			turned := swapped(s, at, string([]byte{s[at] ^ byte(1+r.below(255))}))
			if e := parses(t, turned); e != api.ErrMalformed && e != api.ErrUnsupported {
				t.Fatalf("a byte changed is answered by %d", e)
			}
			seen[parses(t, summed(turned))]++
		}
	}
	for e, n := range map[api.Errno]int{api.OK: 100, api.ErrMalformed: 1000, api.ErrUnsupported: 100, api.ErrLarge: 10} {
		if seen[e] < n {
			t.Errorf("error %d was seen %d times alone", e, seen[e])
		}
	}
}

func TestParseOfAnyTexts(t *testing.T) {
	r := numbers(1615)
	for range 20000 {
		s := "OggS\x00" + r.text(r.below(80))
		parses(t, s)
		parses(t, s[r.below(6):])
	}
	for range 4000 {
		p, o := r.file()
		packets, _ := packetsModel(p, o)
		k := r.below(len(packets))
		at := r.below(len(packets[k]))
		switch r.below(5) {
		case 0:
			packets[k] = packets[k][:at] + packets[k][at+1:]
		case 1:
			packets[k] = packets[k][:at] + r.text(1) + packets[k][at:]
		case 2:
			packets[k] = swapped(packets[k], at, r.text(1))
		case 3:
			packets = slices.Insert(packets, k, packets[r.below(len(packets))])
		case 4:
			packets = slices.Delete(packets, k, k+1)
		}
		x := sketch{packets: packets, samples: make([]int, len(packets))}
		if n := len(o.Flac.Blocks); len(packets) == n+len(o.Flac.Frames) {
			for k, f := range o.Flac.Frames {
				x.samples[n+k] = f.Size
			}
		}
		if len(packets) > 0 {
			parses(t, x.text())
		}
	}
}

func TestBesideAnErrorIsNothing(t *testing.T) {
	x := plainSketch(func(i *api.StreamInfo) { i.Samples = 48 })
	y := plainSketch()
	y.headed = func(l []api.Page) { l[1].Granule++ }
	z := plainSketch()
	z.packets[0] = swapped(z.packets[0], 5, "\x02")
	for _, s := range []string{"", "hello", "OggS", x.text(), y.text(), z.text(), y.text() + "x", counted(1024, 0).text(), counted(3, 4).text()} {
		p, o, e := oggflac.Parse(s)
		if e == api.OK || !pcm.Same(p, api.PCM{}) || len(p.Planes) != 0 || !sameOgg(o, api.Ogg{}) {
			t.Errorf("Parse(%s): %s %s %d", short(s), short(p), short(o), e)
		}
	}
}
