package flac_test

import (
	"slices"
	"strings"
	"testing"

	"lacquer/api"
	"lacquer/flac"
	"lacquer/pcm"
)

// Promise 14.2.

func TestExamplesOfParse(t *testing.T) {
	i := stream(1, 8, 8000)
	s := "fLaC\x80\x00\x00\x22" + layInfo(i)
	if len(s) != 42 {
		t.Fatalf("%d bytes", len(s))
	}
	tells(t, s, quietPcm(i, 0), quietFlac(i))
	isParse(t, "Number 1 at first", quietFile(i, quiet(i, false, 1, 16)), api.ErrMalformed)
	isParse(t, "a Digest of noughts", quietFile(i, quiet(i, false, 0, 16)), api.OK)
	isParse(t, "a byte behind the last frame", quietFile(i, quiet(i, false, 0, 16))+"\x00", api.ErrMalformed)
	isParse(t, "a byte behind no frame", s+"\x00", api.ErrMalformed)
	// A whole file, byte by byte: chapter 11's example is its frame.
	whole := "fLaC\x00\x00\x00\x22" +
		"\x00\x10\x10\x00\x00\x00\x0b\x00\x00\x0b\x01\xf4\x00\x70\x00\x00\x00\x10" + noughts +
		"\x81\x00\x00\x02pd" +
		"\xff\xf8\x64\x02\x00\x0f\x49\x00\x00\xfb\xea"
	want := api.Frame{Size: 16, SizeCode: 6, RateCode: 4, WidthCode: 1, Subs: []api.Sub{{Kind: api.SubConstant}}}
	i.MaxBlock, i.MinFrame, i.MaxFrame, i.Samples = 4096, 11, 11, 16
	f := api.Flac{Blocks: []api.Block{{Body: layInfo(i)}, {Type: 1, Body: "pd"}}, Frames: []api.Frame{want}}
	tells(t, whole, quietPcm(i, 16), f)
}

func TestStreamsOfEachKind(t *testing.T) {
	r := numbers(1421)
	for channels := 1; channels <= 8; channels++ {
		for width := 4; width <= 24; width++ {
			for _, rate := range []int{1, 8000, 44100, 96000, 655350} {
				p, f := r.fileOf(channels, width, rate)
				s, _ := layModel(p, f)
				tells(t, s, p, f)
				parses(t, s)
			}
		}
	}
}

func TestMarks(t *testing.T) {
	i := stream(1, 8, 8000)
	s := quietFile(i, quiet(i, false, 0, 16))
	for _, mark := range []string{"flac", "FLAC", "fLac", "fLa ", "OggS", "RIFF", "FORM", "LAQ1", "fLaB", " LaC", "\x00\x00\x00\x00"} {
		isParse(t, "another mark", mark+s[4:], api.ErrUnsupported)
	}
	for n := range 4 {
		isParse(t, "a mark cut off", s[:n], api.ErrUnsupported)
		isParse(t, "a text that goes on too soon", s[n+1:], api.ErrUnsupported)
	}
	for at := range 4 {
		for b := range 256 {
			want := []api.Errno{api.ErrUnsupported, api.OK}[btoi(s[at] == byte(b))]
			isParse(t, "a byte of the mark", swapped(s, at, string([]byte{byte(b)})), want)
		}
	}
	for _, ahead := range []string{" ", "\x00", "ID3", s} {
		want := []api.Errno{api.ErrUnsupported, api.ErrMalformed}[btoi(ahead == s)]
		isParse(t, "something ahead", ahead+s, want)
	}
	isParse(t, "hello", "hello", api.ErrUnsupported)
	isParse(t, "the mark alone", "fLaC", api.ErrMalformed)
}

// What meta refuses is refused with its error.
func TestMetadataThatIsRefused(t *testing.T) {
	i := stream(2, 16, 44100)
	frames := quietText(i, quiet(i, false, 0, 16))
	seen := map[api.Errno]int{}
	for _, c := range infoFaults() {
		seen[c.want]++
		head := "\x80\x00\x00" + string([]byte{byte(len(c.body))})
		isParse(t, c.what, "fLaC"+head+c.body+frames, c.want)
		isParse(t, c.what+", no frames", "fLaC"+head+c.body, c.want)
	}
	if seen[api.ErrMalformed] == 0 || seen[api.ErrUnsupported] == 0 || seen[api.ErrLarge] == 0 || seen[api.OK] != 0 {
		t.Errorf("errors of STREAMINFO were seen so often: %v", seen)
	}
	first := "\x00\x00\x00\x22" + layInfo(i)
	for _, c := range []struct {
		what, s string
		want    api.Errno
	}{
		{"no STREAMINFO", "\x81\x00\x00\x00", api.ErrMalformed},
		{"no last block", first, api.ErrMalformed},
		{"two STREAMINFO", first + "\x80\x00\x00\x22" + layInfo(i), api.ErrMalformed},
		{"two comments", first + "\x04\x00\x00\x00\x84\x00\x00\x00", api.ErrMalformed},
		{"type 127", first + "\xff\x00\x00\x00", api.ErrMalformed},
		{"a SEEKTABLE of 17 bytes", first + "\x83\x00\x00\x11" + strings.Repeat("s", 17), api.ErrMalformed},
		{"1025 blocks", first + strings.Repeat("\x01\x00\x00\x00", 1023) + "\x81\x00\x00\x00", api.ErrLarge},
		{"1024 blocks", first + strings.Repeat("\x01\x00\x00\x00", 1022) + "\x81\x00\x00\x00", api.OK},
	} {
		isParse(t, c.what, "fLaC"+c.s+frames, c.want)
	}
}

// Samples may be 0, or how many there are.
func TestSamplesSaid(t *testing.T) {
	for _, channels := range []int{1, 2, 8} {
		for _, sizes := range [][]int{{}, {16}, {7}, {20, 20, 3}} {
			i := stream(channels, 16, 44100)
			count := 0
			for _, n := range sizes {
				count += n
			}
			for n := range 100 {
				i.Samples = n
				want := []api.Errno{api.ErrMalformed, api.OK}[btoi(n == 0 || n == count)]
				isParse(t, "Samples", quietFile(i, quietRow(i, false, sizes...)...), want)
				isParse(t, "Samples", quietFile(i, quietRow(i, true, sizes...)...), want)
			}
			for _, n := range []int{count * channels, 1<<16 + count, 1 << 20} {
				i.Samples = n
				want := []api.Errno{api.ErrMalformed, api.OK}[btoi(n == 0 || n == count)]
				isParse(t, "Samples", quietFile(i, quietRow(i, false, sizes...)...), want)
			}
		}
	}
}

// A Digest may be noughts, or the right one.
func TestDigests(t *testing.T) {
	r := numbers(1422)
	for _, size := range []int{0, 1, 16, 40} {
		i := stream(2, 16, 44100)
		l := quietRow(i, false, size)[:btoi(size > 0)]
		right, _ := pcm.Digest(quietPcm(i, size))
		other, _ := pcm.Digest(quietPcm(i, size+1))
		said := func(what, digest string, want api.Errno) {
			t.Helper()
			i.Digest = digest
			isParse(t, what, quietFile(i, l...), want)
		}
		said("the right one", right, api.OK)
		said("noughts", noughts, api.OK)
		said("another one", other, api.ErrMalformed)
		said("the right one backwards", backwards(right), api.ErrMalformed)
		for at := range 16 {
			said("a byte changed", swapped(right, at, string([]byte{right[at] ^ byte(1+r.below(255))})), api.ErrMalformed)
			said("noughts but for a byte", swapped(noughts, at, string([]byte{byte(1 + r.below(255))})), api.ErrMalformed)
			said("noughts within the right one", right[:at]+noughts[at:], []api.Errno{api.ErrMalformed, api.OK}[btoi(at == 0)])
		}
	}
}

func backwards(s string) string {
	b := []byte(s)
	slices.Reverse(b)
	return string(b)
}

// filler is blocks that have so many bytes in all, their heads among them.
func filler(size int) []api.Block {
	var l []api.Block
	for size > 0 {
		n := min(size-4, 1<<24-1)
		if rest := size - 4 - n; rest > 0 && rest < 4 {
			n -= 4
		}
		l = append(l, api.Block{Type: 1, Body: strings.Repeat("\x00", n)})
		size -= 4 + n
	}
	return l
}

// fileOfSize is a file of quiet frames that has so many bytes.
func fileOfSize(size int) (api.PCM, api.Flac, string) {
	i := stream(1, 8, 8000)
	l := quietRow(i, false, 16, 16)
	frames := quietText(i, l...)
	f := quietFlac(i, l...)
	f.Blocks = append(f.Blocks, filler(size-4-38-len(frames))...)
	return quietPcm(i, 32), f, "fLaC" + metadata(f.Blocks...) + frames
}

func TestMaxFile(t *testing.T) {
	p, f, s := fileOfSize(1 << 26)
	if len(s) != 67108864 {
		t.Fatalf("%d bytes", len(s))
	}
	tells(t, s, p, f)
	isParse(t, "one byte behind", s+"\x00", api.ErrLarge)
	isParse(t, "without the last byte", s[:len(s)-1], api.ErrMalformed)
	isParse(t, "one byte ahead", " "+s, api.ErrLarge)
	isParse(t, "another mark", "OggS"+s[4:], api.ErrUnsupported)
	isParse(t, "another mark, and a byte more", "OggS"+s[4:]+"\x00", api.ErrLarge)
	isParse(t, "a wrong STREAMINFO, and a byte more", swapped(s, 8, "\x00\x00")+"\x00", api.ErrLarge)
	_, _, s = fileOfSize(1<<26 + 1)
	isParse(t, "one byte more within", s, api.ErrLarge)
}

func TestMaxSamplesOfParse(t *testing.T) {
	i := stream(2, 16, 44100)
	i.Samples = 1 << 20
	i.Digest, _ = pcm.Digest(quietPcm(i, 1<<20))
	s := quietFile(i, many(i, false)...)
	isParse(t, "as many as can be", s, api.OK)
	isParse(t, "one more", s+quietText(i, quiet(i, false, 256, 1)), api.ErrLarge)
	i.Samples, i.Digest = 0, noughts
	isParse(t, "one more, of which nothing is said", quietFile(i, many(i, true, 1)...), api.ErrLarge)
}

// parseFault is one thing that is wrong in a file; step is where the chapter names it, so that of two the lower one is told.
type parseFault struct {
	what string
	step int
	want api.Errno
	do   func(x *sketch)
}

// sketch is a file part by part, be they right or not.
type sketch struct {
	mark, info, blocks, frames, behind string
}

func (x sketch) text() string {
	s := x.mark + "\x00\x00\x00" + string([]byte{byte(len(x.info))}) + x.info + x.blocks
	return s + x.frames + x.behind
}

// sketchOf is one of two frames of 20 samples, with a right Samples and Digest.
func sketchOf(i api.StreamInfo) sketch {
	i.Samples = 40
	i.Digest, _ = pcm.Digest(quietPcm(i, 40))
	return sketch{mark: "fLaC", info: layInfo(i), blocks: "\x81\x00\x00\x00", frames: quietText(i, quietRow(i, false, 20, 20)...)}
}

func parseFaults(i api.StreamInfo) []parseFault {
	l := []parseFault{
		{"another mark", 1, api.ErrUnsupported, func(x *sketch) { x.mark = "FLaC" }},
		{"a STREAMINFO too short", 2, api.ErrMalformed, func(x *sketch) { x.info = x.info[:33] }},
		{"a MinBlock of 0", 2, api.ErrMalformed, func(x *sketch) { x.info = swapped(x.info, 0, "\x00\x00") }},
		{"a wrong block", 3, api.ErrMalformed, func(x *sketch) { x.blocks = "\x82\x00\x00\x03abc" }},
		{"too many blocks", 3, api.ErrLarge, func(x *sketch) { x.blocks = strings.Repeat("\x01\x00\x00\x00", 1024) }},
		{"a frame of a wrong Number", 4, api.ErrMalformed, func(x *sketch) { x.frames = quietText(i, quiet(i, false, 0, 20), quiet(i, false, 2, 20)) }},
		{"a frame too long", 4, api.ErrUnsupported, func(x *sketch) { x.frames = tooLong(0) }},
		{"a frame cut off", 4, api.ErrMalformed, func(x *sketch) { x.frames = x.frames[:len(x.frames)-1] }},
		{"too many samples", 4, api.ErrLarge, func(x *sketch) { x.frames = quietText(i, many(i, false, 1)...) }},
		{"a byte behind", 5, api.ErrMalformed, func(x *sketch) { x.behind = "\x00" }},
		{"Samples one more", 6, api.ErrMalformed, func(x *sketch) { x.info = swapped(x.info, 17, "\x29") }},
		{"a Digest changed", 7, api.ErrMalformed, func(x *sketch) { x.info = swapped(x.info, 18, "???") }},
	}
	for _, c := range []infoFault{infoFaults()[4], infoFaults()[5], infoFaults()[6]} {
		l = append(l, parseFault{c.what, 2, c.want, func(x *sketch) { x.info = c.body }})
	}
	return l
}

// Two faults in one file: the first that is seen is told.
func TestTwoFaultsInFiles(t *testing.T) {
	i := stream(1, 8, 8000)
	isParse(t, "none", sketchOf(i).text(), api.OK)
	for _, a := range parseFaults(i) {
		x := sketchOf(i)
		a.do(&x)
		isParse(t, a.what, x.text(), a.want)
		for _, b := range parseFaults(i) {
			if b.step > a.step {
				x := sketchOf(i)
				a.do(&x)
				b.do(&x)
				isParse(t, a.what+", and "+b.what, x.text(), a.want)
			}
		}
	}
}

func TestFilesCutOff(t *testing.T) {
	r := numbers(1423)
	for range 60 {
		p, f := r.fileOf(1+r.below(2), 4+r.below(21), 44100)
		s, _ := layModel(p, f)
		for n := range len(s) {
			parses(t, s[:n])
		}
	}
	// With Samples each place to cut at is one too early.
	i := stream(2, 16, 44100)
	i.Samples = 59
	s := quietFile(i, quietRow(i, false, 20, 20, 19)...)
	for n := range len(s) {
		want := []api.Errno{api.ErrMalformed, api.ErrUnsupported}[btoi(n < 4)]
		isParse(t, "cut off", s[:n], want)
	}
	isParse(t, "whole", s, api.OK)
}

// Each byte of a file another one.
func TestEachByteChanged(t *testing.T) {
	r := numbers(1424)
	seen := map[api.Errno]int{}
	for range 40 {
		p, f := r.fileOf(1+r.below(3), 4+r.below(21), 1+r.below(655350))
		s, _ := layModel(p, f)
		frames := 4 + len(metadata(f.Blocks...))
		for at := range len(s) {
			turned := swapped(s, at, string([]byte{s[at] ^ byte(1+r.below(255))}))
			e := parses(t, turned)
			if at >= frames && e != api.ErrMalformed {
				t.Fatalf("a byte of a frame changed is answered by %d", e)
			}
			seen[e]++
		}
	}
	for e, n := range map[api.Errno]int{api.OK: 100, api.ErrMalformed: 1000, api.ErrUnsupported: 100, api.ErrLarge: 10} {
		if seen[e] < n {
			t.Errorf("error %d was seen %d times alone", e, seen[e])
		}
	}
}

func TestParseOfAnyTexts(t *testing.T) {
	r := numbers(1425)
	for range 20000 {
		s := "fLaC" + r.text(r.below(80))
		parses(t, s)
		parses(t, s[r.below(5):])
	}
	for range 3000 {
		p, f := r.file()
		s, _ := layModel(p, f)
		at := r.below(len(s))
		switch r.below(4) {
		case 0:
			s = s[:at] + s[at+1:]
		case 1:
			s = s[:at] + r.text(1) + s[at:]
		case 2:
			s = s[:at] + s[r.below(len(s)):]
		case 3:
			s += r.text(1 + r.below(20))
		}
		parses(t, s)
	}
}

func TestBesideAnErrorIsNothing(t *testing.T) {
	i := stream(1, 8, 8000)
	x := sketchOf(i)
	for _, s := range []string{"", "hello", "fLaC", x.text() + "x", swapped(x.text(), 30, "??"), quietFile(i, many(i, false, 1)...)} {
		p, f, e := flac.Parse(s)
		if e == api.OK || !pcm.Same(p, api.PCM{}) || len(p.Planes) != 0 || !sameFlac(f, api.Flac{}) {
			t.Errorf("Parse(%s): %s %s %d", short(s), short(p), short(f), e)
		}
		planes, l, e := flac.Frames(s+"x", i)
		if e == api.OK || len(planes) != 0 || len(l) != 0 {
			t.Errorf("Frames(%s): %s %s %d", short(s), short(planes), short(l), e)
		}
	}
}
