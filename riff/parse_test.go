package riff_test

import (
	"fmt"
	"slices"
	"strings"
	"testing"

	"lacquer/api"
)

// Promise 6.2.

// example is the chapter's file: one channel, 8 bits, rate 8000, samples 0, 1, -1, no pad.
const example = "RIFF\x27\x00\x00\x00WAVE" +
	"fmt \x10\x00\x00\x00\x01\x00\x01\x00\x40\x1f\x00\x00\x40\x1f\x00\x00\x01\x00\x08\x00" +
	"data\x03\x00\x00\x00\x80\x81\x7f"

// Places in the example.
const (
	fmtAt      = 12
	tagAt      = 20
	channelsAt = 22
	dataAt     = 36
)

func TestExamplesOfParse(t *testing.T) {
	p := one(8, 0, 1, -1)
	head := api.Chunk{Id: "fmt ", Body: format(16, 1, 8000, 8)}
	isParse(t, example, p, api.Wave{Form: "RIFF", Chunks: []api.Chunk{head, {Id: "data", Pad: -1}}}, api.OK)
	padded := swapped(example, 4, "\x28") + "\x07"
	isParse(t, padded, p, api.Wave{Form: "RIFF", Chunks: []api.Chunk{head, {Id: "data", Pad: 7}}}, api.OK)
	refuses(t, "a tag of 3", swapped(example, tagAt, "\x03"), api.ErrUnsupported)
	refuses(t, "a byte behind the end", padded+"\x00", api.ErrMalformed)
	refuses(t, "a byte behind the last chunk", numbered(padded+"\x00"), api.ErrMalformed)
	refuses(t, "RIFF", "RIFF", api.ErrMalformed)
	refuses(t, "nothing", "", api.ErrMalformed)
}

// A file of RF64, spelt out.
func TestExampleOfLong(t *testing.T) {
	sizes := "\x4b\x00\x00\x00\x00\x00\x00\x00" + "\x03\x00\x00\x00\x00\x00\x00\x00" + "\x03\x00\x00\x00\x00\x00\x00\x00" + "\x00\x00\x00\x00"
	s := "RF64\xff\xff\xff\xffWAVE" + "ds64\x1c\x00\x00\x00" + sizes + example[fmtAt:dataAt] + "data\xff\xff\xff\xff\x80\x81\x7f"
	w := api.Wave{Form: "RF64", Chunks: []api.Chunk{
		{Id: "ds64", Body: sizes}, {Id: "fmt ", Body: format(16, 1, 8000, 8)}, {Id: "data", Pad: -1},
	}}
	isParse(t, s, one(8, 0, 1, -1), w, api.OK)
	isBuild(t, one(8, 0, 1, -1), w, s, api.OK)
	w.Chunks[2].Pad, w.Chunks[0].Body = 9, swapped(sizes, 0, "\x4c")
	s = swapped(s, 20, "\x4c") + "\x09"
	isParse(t, s, one(8, 0, 1, -1), w, api.OK)
	isBuild(t, one(8, 0, 1, -1), w, s, api.OK)
}

func TestTextsAtTheBeginning(t *testing.T) {
	for _, s := range []string{
		"", "R", "RIFF", "RF64", "RIFX", "riff", "FORM", "RIFF\x00\x00\x00", "RF64\xff\xff\xff",
		"RIFF\x00\x00\x00\x00", "RF64\xff\xff\xff\xff", "RIFF\x03\x00\x00\x00WAV", "RF64\xff\xff\xff\xffWAV",
		"RIFF\x04\x00\x00\x00WAVE", "RF64\xff\xff\xff\xffWAVE", "RIFF\x04\x00\x00\x00wave", "RIFX\x04\x00\x00\x00WAVE",
		"RIFF\x03\x00\x00\x00WAVE", "RIFF\x05\x00\x00\x00WAVE", "RIFF\x00\x00\x00\x04WAVE", "RF64\x04\x00\x00\x00WAVE",
		"RIFF\xff\xff\xff\xffWAVE", "hello", "hello, hello",
	} {
		refuses(t, "a beginning", s, api.ErrMalformed)
	}
	for n := range len(example) {
		refuses(t, "cut off", example[:n], api.ErrMalformed)
		refuses(t, "cut off, with another number", numbered(example[:n]), api.ErrMalformed)
	}
}

// Each byte of the head with each value: the model tells which is right.
func TestEachByteOfFiles(t *testing.T) {
	p := api.PCM{Rate: 44100, Channels: 2, Width: 24, Planes: [][]int{{1, -2, 3}, {-4, 5, -6}}}
	data := api.Chunk{Id: "data"}
	junk := api.Chunk{Id: "junk", Body: "abc", Pad: 7}
	taken := map[api.Errno]int{}
	for _, form := range forms() {
		for _, size := range sizes() {
			s := text(t, p, wave(form, p, junk, fmtChunk(size, p), data, junk))
			for at := range len(s) {
				for b := range 256 {
					taken[parses(t, swapped(s, at, string([]byte{byte(b)})))]++
				}
			}
		}
	}
	for _, e := range []api.Errno{api.OK, api.ErrMalformed, api.ErrUnsupported} {
		if taken[e] < 1000 {
			t.Errorf("%d files answered %d", taken[e], e)
		}
	}
}

func TestForms(t *testing.T) {
	r := numbers(621)
	for _, form := range forms() {
		for _, size := range sizes() {
			for _, width := range widths() {
				for _, channels := range []int{1, 2, 3, 4, 5, 6, 7, api.MaxChannels} {
					for _, length := range []int{0, 1, 2, 3, 20} {
						p := r.pcm(channels, width, length)
						w := wave(form, p, fmtChunk(size, p), api.Chunk{Id: "data"})
						isParse(t, text(t, p, w), p, w, api.OK)
					}
				}
			}
		}
	}
}

// Foreign chunks stand anywhere, and are told as they are; only in RF64 ds64 stands first.
func TestForeignChunks(t *testing.T) {
	p := one(16, 1, -1, 300)
	format, data := fmtChunk(18, p), api.Chunk{Id: "data"}
	odd, none := api.Chunk{Id: "junk", Body: "odd", Pad: 3}, api.Chunk{Id: "none"}
	last := api.Chunk{Id: "last", Body: "x", Pad: -1}
	for _, l := range [][]api.Chunk{
		{format, data},
		{odd, format, data}, {none, odd, odd, format, data},
		{format, odd, data}, {format, none, odd, none, data},
		{format, data, odd}, {format, data, last}, {format, data, none, odd, none, last},
		{odd, none, format, odd, none, data, odd, none},
		{{Id: "FMT "}, {Id: "DATA", Body: "12"}, format, {Id: "fmt_"}, data, {Id: "Data"}, {Id: "LIST", Body: "INFO"}},
		{{Id: "RIFF"}, {Id: "RF64"}, {Id: "WAVE"}, format, data},
	} {
		for _, form := range forms() {
			w := wave(form, p, l...)
			isParse(t, text(t, p, w), p, w, api.OK)
		}
	}
	// In RIFF ds64 is foreign, whatever it holds, wherever and however often it stands.
	sizes := api.Chunk{Id: "ds64", Body: "any", Pad: 1}
	for _, l := range [][]api.Chunk{{sizes, format, data}, {format, sizes, data}, {format, data, sizes}, {sizes, sizes, format, sizes, data, sizes}} {
		w := wave("RIFF", p, l...)
		isParse(t, text(t, p, w), p, w, api.OK)
	}
	for _, l := range [][]api.Chunk{{sizes, format, data}, {format, sizes, data}, {format, data, sizes}} {
		refuses(t, "a second ds64", wrapped("RF64", wave("RF64", p, l...).Chunks), api.ErrMalformed)
	}
}

// What must be there once, and in order.
func TestOrderOfChunks(t *testing.T) {
	p := one(16, 1, -1)
	format := fmtChunk(16, p)
	data := api.Chunk{Id: "data", Body: packed(p)}
	junk := api.Chunk{Id: "junk", Body: "x", Pad: 1}
	for _, l := range [][]api.Chunk{
		nil, {format}, {data}, {junk}, {format, junk}, {junk, junk},
		{data, format}, {junk, data, format}, {data, junk, format},
		{format, format, data}, {format, data, format}, {format, junk, format, data}, {format, data, junk, format},
		{format, data, data}, {format, data, junk, data}, {data, format, data},
	} {
		refuses(t, fmt.Sprintf("%q", names(l)), wrapped("RIFF", l), api.ErrMalformed)
		long := slices.Insert(slices.Clone(l), 0, sizesChunk(p, bareOf(l)))
		refuses(t, fmt.Sprintf("%q in RF64", names(l)), wrapped("RF64", long), api.ErrMalformed)
	}
}

func names(l []api.Chunk) []string {
	var n []string
	for _, c := range l {
		n = append(n, c.Id)
	}
	return n
}

// bareOf is l as a skeleton has it.
func bareOf(l []api.Chunk) []api.Chunk {
	l = slices.Clone(l)
	for i := range l {
		if l[i].Id == "data" {
			l[i].Body = ""
		}
	}
	return l
}

// withFormat is a file whose fmt has this Body.
func withFormat(body string) string {
	pad := 0
	if len(body)%2 == 1 {
		pad = 5
	}
	return wrapped("RIFF", []api.Chunk{{Id: "fmt ", Body: body, Pad: pad}, {Id: "data"}})
}

func TestLengthsAndTagsOfFormat(t *testing.T) {
	for length := range 60 {
		for _, tag := range []int{0, 1, 2, 3, 6, 7, 255, 256, 257, 65533, 65534, 65535} {
			body := format(40, 2, 44100, 16) + strings.Repeat("\x00", 20)
			body = swapped(body[:length], 0, num(tag, 2)[:min(2, length)])
			if length == 18 {
				body = body[:16] + "\x00\x00"
			}
			want := api.ErrMalformed
			if length >= 16 && tag != 1 && tag != 65534 {
				want = api.ErrUnsupported
			}
			if tag == 1 && (length == 16 || length == 18) || tag == 65534 && length == 40 {
				want = api.OK
			}
			refuses(t, fmt.Sprint("fmt of ", length, " bytes, tag ", tag), withFormat(body), want)
		}
	}
}

func TestNumbersOfFormat(t *testing.T) {
	for _, size := range sizes() {
		for channels := range 20 {
			for _, width := range []int{0, 1, 4, 7, 8, 9, 12, 15, 16, 17, 20, 24, 25, 31, 32, 33, 40, 48, 64, 256, 65535} {
				for _, rate := range []int{0, 1, 8000, api.MaxRate, api.MaxRate + 1, 1<<32 - 1} {
					want := api.OK
					if channels > 8 || rate > api.MaxRate || !slices.Contains(widths(), width) {
						want = api.ErrUnsupported
					}
					if channels == 0 || rate == 0 || width == 0 {
						want = api.ErrMalformed
					}
					refuses(t, fmt.Sprint("fmt of ", size, channels, rate, width), withFormat(format(size, channels, rate, width)), want)
				}
			}
		}
	}
	for _, channels := range []int{256, 257, 65535} {
		refuses(t, "many channels", withFormat(format(16, channels, 8000, 8)), api.ErrUnsupported)
	}
}

func TestTheRestOfFormat(t *testing.T) {
	for _, width := range widths() {
		for _, size := range sizes() {
			body := format(size, 3, 48000, width)
			block := 3 * width / 8
			for _, c := range []struct {
				what  string
				at    int
				bytes string
				want  api.Errno
				least int // bytes of fmt
			}{
				{"as it is", 8, num(48000*block, 4), api.OK, 16},
				{"bytes a second", 8, num(48000*block+1, 4), api.ErrMalformed, 16},
				{"bytes a second", 8, num(48000*block-1, 4), api.ErrMalformed, 16},
				{"bytes a second", 8, num(48000, 4), api.ErrMalformed, 16},
				{"bytes a second", 8, num(0, 4), api.ErrMalformed, 16},
				{"bytes a second", 11, "\x01", api.ErrMalformed, 16},
				{"bytes of a sample", 12, num(block+1, 2), api.ErrMalformed, 16},
				{"bytes of a sample", 12, num(0, 2), api.ErrMalformed, 16},
				{"bytes of a sample", 13, "\x01", api.ErrMalformed, 16},
				{"both, that go together", 8, num(48000*(block+1), 4) + num(block+1, 2), api.ErrMalformed, 16},
				{"what there is more", 16, "\x01", api.ErrMalformed, 18},
				{"what there is more", 17, "\x01", api.ErrMalformed, 18},
				{"what there is more", 16, "\x17\x00", api.ErrMalformed, 40},
				{"the width again", 18, num(width-1, 2), api.ErrUnsupported, 40},
				{"the width again", 18, num(0, 2), api.ErrUnsupported, 40},
				{"the width again", 19, "\x01", api.ErrUnsupported, 40},
				{"any 4 bytes", 20, "\x00\x00\x00\x00", api.OK, 40},
				{"any 4 bytes", 20, "\xff\xff\xff\xff", api.OK, 40},
				{"the 16 bytes", 24, "\x03", api.ErrUnsupported, 40},
				{"the 16 bytes", 39, "\x72", api.ErrUnsupported, 40},
				// What is malformed is told ahead of what is unsupported.
				{"more, and the width again", 16, "\x17\x00\x01\x00", api.ErrMalformed, 40},
				{"the width again and the 16 bytes", 18, "\x01\x00\x00\x00\x00\x00\x03", api.ErrUnsupported, 40},
			} {
				if size >= c.least {
					refuses(t, fmt.Sprint(c.what, " of ", size), withFormat(swapped(body, c.at, c.bytes)), c.want)
				}
			}
		}
	}
	// 16 bytes 1 in all places but one are others.
	long := format(40, 1, 8000, 32)
	for at := 24; at < 40; at++ {
		refuses(t, "one of the 16 bytes", withFormat(swapped(long, at, string([]byte{long[at] ^ 1}))), api.ErrUnsupported)
		refuses(t, "one of the 16 bytes, and bytes a second", withFormat(swapped(swapped(long, at, string([]byte{long[at] ^ 1})), 8, "\x09")), api.ErrMalformed)
	}
}

// Of two things in fmt that are wrong the first of the chapter's order is told.
func TestOrderOfFormatErrors(t *testing.T) {
	right := format(16, 1, 8000, 8)
	long := format(40, 1, 8000, 8)
	for _, c := range []struct {
		what, body string
		want       api.Errno
	}{
		{"short, and a tag of 3", swapped(right, 0, "\x03")[:15], api.ErrMalformed},
		{"a tag of 3, and a length of none", swapped(right, 0, "\x03") + "x", api.ErrUnsupported},
		{"a tag of 3, and no channels", swapped(right, 0, "\x03\x00\x00\x00"), api.ErrUnsupported},
		{"a length of the other tag, and 9 channels", long[:16] + "\x00\x00", api.ErrMalformed},
		{"a length of the other tag, and 9 channels", swapped(long, 0, "\x01\x00\x09"), api.ErrMalformed},
		{"no channels, and a width of 12", swapped(swapped(right, 2, "\x00\x00"), 14, "\x0c"), api.ErrMalformed},
		{"no channels, and a rate past the limit", swapped(right, 2, "\x00\x00\xff\xff\xff\xff"), api.ErrMalformed},
		{"no rate, and 9 channels", swapped(right, 2, "\x09\x00\x00\x00\x00\x00"), api.ErrMalformed},
		{"no width, and 9 channels", swapped(swapped(right, 2, "\x09"), 14, "\x00"), api.ErrMalformed},
		{"9 channels, and another number of bytes", swapped(right, 2, "\x09"), api.ErrUnsupported},
		{"a width of 12, and another number of bytes", swapped(right, 12, "\x05\x00\x0c"), api.ErrUnsupported},
		{"a rate past the limit, and bytes a second", swapped(right, 4, "\xff\xff\xff\xff"), api.ErrUnsupported},
		{"bytes a second, and the 16 bytes", swapped(swapped(long, 8, "\x00"), 24, "\x03"), api.ErrMalformed},
		{"what there is more, and the width again", swapped(long, 16, "\x00\x00\x07\x00"), api.ErrMalformed},
	} {
		refuses(t, c.what, withFormat(c.body), c.want)
	}
}

// What is seen first from the beginning on is told, also where what follows is wrong in another way.
func TestOrderOfParseErrors(t *testing.T) {
	float := swapped(example, tagAt, "\x03")
	for _, c := range []struct {
		what, s string
		want    api.Errno
	}{
		{"the number, and a tag of 3", swapped(float, 4, "\x00"), api.ErrMalformed},
		{"WAVE, and a tag of 3", swapped(float, 8, "w"), api.ErrMalformed},
		{"a tag of 3, and a byte behind", numbered(float + "\x00\x00"), api.ErrUnsupported},
		{"a tag of 3, and data cut off", numbered(float[:len(float)-1]), api.ErrUnsupported},
		{"a tag of 3, and no data", numbered(float[:dataAt]), api.ErrUnsupported},
		{"a tag of 3, and a wrong Id ahead", numbered(float[:fmtAt] + "\x01bcd\x00\x00\x00\x00" + float[fmtAt:]), api.ErrMalformed},
		{"a tag of 3, and data ahead", numbered(float[:fmtAt] + "data\x00\x00\x00\x00" + float[fmtAt:]), api.ErrMalformed},
		{"a second fmt with a tag of 3", numbered(example[:dataAt] + float[fmtAt:]), api.ErrMalformed},
		{"a second fmt behind one with a tag of 3", numbered(float[:dataAt] + example[fmtAt:]), api.ErrUnsupported},
		{"a second fmt that is cut off", numbered(example[:dataAt] + float[fmtAt:30]), api.ErrMalformed},
		{"data ahead, and an Id behind", numbered(example[:fmtAt] + example[dataAt:] + "\x00\x00"), api.ErrMalformed},
		{"9 channels, and data not divided", swapped(example, channelsAt, "\x09"), api.ErrUnsupported},
	} {
		refuses(t, c.what, c.s, c.want)
	}
}

// many is a file with so many foreign chunks behind fmt and data, and what is behind them.
func many(form string, count int, behind string) string {
	p := one(8, 5, 6)
	l := append([]api.Chunk{fmtChunk(16, p), {Id: "data"}}, slices.Repeat([]api.Chunk{{Id: "more"}}, count)...)
	w := wave(form, p, l...)
	for i := range w.Chunks {
		if w.Chunks[i].Id == "data" {
			w.Chunks[i].Body = packed(p)
		}
	}
	return numbered(wrapped(form, w.Chunks) + behind)
}

func TestManyChunksInFiles(t *testing.T) {
	for _, form := range forms() {
		rest := api.MaxChunks - 2
		if form == "RF64" {
			rest--
		}
		refuses(t, "one less", many(form, rest-1, ""), api.OK)
		refuses(t, "MaxChunks", many(form, rest, ""), api.OK)
		refuses(t, "one more", many(form, rest+1, ""), api.ErrLarge)
		for _, c := range []struct {
			behind string
			want   api.Errno
		}{
			{"x", api.ErrMalformed}, {"abc\x1f\x00\x00\x00\x00", api.ErrMalformed}, {"abcd\x01\x00\x00\x00", api.ErrMalformed},
			// That there would be one too many is told ahead of what the chunk is.
			{"abcd\x01\x00\x00\x00z", api.ErrLarge}, {"fmt \x00\x00\x00\x00", api.ErrLarge},
		} {
			refuses(t, "one more", many(form, rest, c.behind), c.want)
		}
		// A fault ahead is told, however many there are.
		float := many(form, rest+5, "")
		at := strings.Index(float, "fmt ") + 8
		refuses(t, "a tag of 3, and too many", swapped(float, at, "\x03"), api.ErrUnsupported)
	}
	refuses(t, "a second data", many("RIFF", api.MaxChunks-2, "data\x00\x00\x00\x00"), api.ErrLarge)
	refuses(t, "a second data in RF64", many("RF64", api.MaxChunks-3, "data\xff\xff\xff\xff12"), api.ErrLarge)
	refuses(t, "a second data in RF64, with its own length", many("RF64", api.MaxChunks-3, "data\x02\x00\x00\x0012"), api.ErrMalformed)
	refuses(t, "a second ds64 in RF64", many("RF64", api.MaxChunks-3, "ds64\x00\x00\x00\x00"), api.ErrLarge)
	// fmt and data may be the last two.
	s := strings.Repeat("abcd\x00\x00\x00\x00", api.MaxChunks-2) + example[fmtAt:]
	refuses(t, "fmt and data at the end", numbered(example[:fmtAt]+s), api.OK)
	refuses(t, "data is one too many", numbered(example[:fmtAt]+"abcd\x00\x00\x00\x00"+s), api.ErrLarge)
	refuses(t, "too many, and no data", numbered(example[:fmtAt]+strings.Repeat("abcd\x00\x00\x00\x00", api.MaxChunks+1)), api.ErrLarge)
	refuses(t, "as many, and no data", numbered(example[:fmtAt]+strings.Repeat("abcd\x00\x00\x00\x00", api.MaxChunks)), api.ErrMalformed)
}

func TestDataThatIsNotDivided(t *testing.T) {
	for _, width := range widths() {
		for _, channels := range []int{1, 2, 3, 8} {
			block := channels * width / 8
			for n := range 2*block + 3 {
				data := api.Chunk{Id: "data", Body: strings.Repeat("\x55", n)}
				if n%2 == 1 {
					data.Pad = 1
				}
				want := api.OK
				if n%block != 0 {
					want = api.ErrMalformed
				}
				format := api.Chunk{Id: "fmt ", Body: format(40, channels, 8000, width)}
				refuses(t, fmt.Sprint(n, " bytes of ", channels, width), wrapped("RIFF", []api.Chunk{format, data}), want)
			}
		}
	}
}

func TestManySamples(t *testing.T) {
	for _, c := range [][2]int{{1, 8}, {2, 16}, {8, 32}} {
		channels, width := c[0], c[1]
		block := channels * width / 8
		for more := range 2 {
			p := quiet(channels, width, api.MaxSamples+more)
			want := api.OK
			if more > 0 {
				want = api.ErrLarge
			}
			for _, form := range forms() {
				w := wave(form, p, fmtChunk(40, p), api.Chunk{Id: "data"})
				full := slices.Clone(w.Chunks)
				last := &full[len(full)-1]
				last.Body = packed(p)
				if len(last.Body)%2 == 1 {
					last.Pad = -1
				}
				s := numbered(wrapped(form, full))
				refuses(t, fmt.Sprint(form, c, " and ", more), s, want)
				if form == "RF64" {
					// What ds64 says of the samples is told ahead of their being too many.
					refuses(t, "another count", swapped(s, 36, num(api.MaxSamples+more+1, 8)), api.ErrMalformed)
				}
			}
		}
		data := api.Chunk{Id: "data", Body: strings.Repeat("\x00", api.MaxSamples*block+block+1), Pad: 0}
		if len(data.Body)%2 == 1 {
			data.Pad = 1
		}
		want := api.ErrMalformed
		if block == 1 {
			want = api.ErrLarge
		}
		s := wrapped("RIFF", []api.Chunk{{Id: "fmt ", Body: format(40, channels, 8000, width)}, data})
		refuses(t, "too many, and not divided", s, want)
	}
}

// A file of MaxFile bytes, and of one more.
func TestLargeFiles(t *testing.T) {
	p := one(16, 1, 2, 3)
	for _, form := range forms() {
		for more := -1; more <= 1; more++ {
			l := []api.Chunk{fmtChunk(16, p), {Id: "data"}, {Id: "junk"}}
			size := len(wrapped(form, wave(form, p, l...).Chunks)) + len(packed(p))
			l[2].Body = strings.Repeat("j", api.MaxFile-size+more)
			if len(l[2].Body)%2 == 1 {
				l[2].Pad = -1
			}
			w := wave(form, p, l...)
			full := slices.Clone(w.Chunks)
			full[len(full)-2].Body = packed(p)
			s := wrapped(form, full)
			if len(s) != api.MaxFile+more {
				t.Fatalf("%d bytes", len(s))
			}
			if more > 0 {
				isParse(t, s, api.PCM{}, api.Wave{}, api.ErrLarge)
				isParse(t, "x"+s[1:], api.PCM{}, api.Wave{}, api.ErrLarge)
				isBuild(t, p, w, "", api.ErrLarge)
				continue
			}
			isParse(t, s, p, w, api.OK)
			isBuild(t, p, w, s, api.OK)
		}
	}
	isParse(t, strings.Repeat("\x00", api.MaxFile+1), api.PCM{}, api.Wave{}, api.ErrLarge)
	isParse(t, strings.Repeat("\x00", api.MaxFile), api.PCM{}, api.Wave{}, api.ErrMalformed)
}

// The numbers of ds64, and what stands in data's own chunk.
func TestSizesOfLong(t *testing.T) {
	p := one(8, 1, 2, 3, 4)
	w := wave("RF64", p, fmtChunk(16, p), api.Chunk{Id: "data"}, api.Chunk{Id: "more", Body: "12"})
	s := text(t, p, w)
	const sizesAt, behindAt, lengthAt, countAt, tableAt, samplesAt = 12, 20, 28, 36, 44, 72
	if s[sizesAt:sizesAt+4] != "ds64" || s[samplesAt:samplesAt+4] != "data" || len(s) != samplesAt+22 {
		t.Fatalf("%q", s)
	}
	for _, c := range []struct {
		what  string
		at    int
		bytes string
		want  api.Errno
	}{
		{"as it is", 0, "RF64", api.OK},
		{"RIFF", 0, "RIFF" + num(len(s)-8, 4), api.ErrMalformed},
		{"the number", 4, num(len(s)-8, 4), api.ErrMalformed},
		{"the number", 4, "\xfe\xff\xff\xff", api.ErrMalformed},
		{"no ds64", sizesAt, "DS64", api.ErrMalformed},
		{"how many bytes are behind", behindAt, num(len(s)-7, 8), api.ErrMalformed},
		{"how many bytes are behind", behindAt, num(len(s)-9, 8), api.ErrMalformed},
		{"how many bytes are behind", behindAt + 7, "\x80", api.ErrMalformed},
		{"how many bytes are behind", behindAt + 4, "\x01", api.ErrMalformed},
		{"data's length", lengthAt, num(3, 8), api.ErrMalformed},
		{"data's length", lengthAt, num(5, 8), api.ErrMalformed},
		{"data's length", lengthAt, num(14, 8), api.ErrMalformed},
		{"data's length", lengthAt, num(15, 8), api.ErrMalformed},
		{"data's length", lengthAt + 4, "\x01", api.ErrMalformed},
		{"data's length", lengthAt + 7, "\x80", api.ErrMalformed},
		{"data's length", lengthAt, num(-1, 8), api.ErrMalformed},
		{"data's length", lengthAt, num(1<<32-1, 8), api.ErrMalformed},
		{"how many samples", countAt, num(3, 8), api.ErrMalformed},
		{"how many samples", countAt, num(5, 8), api.ErrMalformed},
		{"how many samples", countAt + 7, "\x80", api.ErrMalformed},
		{"how many samples", countAt, num(-1, 8), api.ErrMalformed},
		{"all of what is behind is data", lengthAt, num(14, 8) + num(14, 8), api.OK},
		{"the table", tableAt, "\x01", api.ErrMalformed},
		{"the table", tableAt + 3, "\x01", api.ErrMalformed},
		{"data's own length", samplesAt + 4, num(4, 4), api.ErrMalformed},
		{"data's own length", samplesAt + 4, "\xfe\xff\xff\xff", api.ErrMalformed},
		{"a foreign chunk's length", samplesAt + 16, "\xff\xff\xff\xff", api.ErrMalformed},
	} {
		refuses(t, c.what, swapped(s, c.at, c.bytes), c.want)
	}
	refuses(t, "ds64 of 24 bytes", numbered(s[:16]+"\x18"+s[17:44]+s[48:]), api.ErrMalformed)
	refuses(t, "ds64 of 30 bytes", numbered(s[:16]+"\x1e"+s[17:48]+"\x00\x00"+s[48:]), api.ErrMalformed)
	refuses(t, "ds64 of 40 bytes", numbered(s[:16]+"\x28"+s[17:48]+strings.Repeat("\x00", 12)+s[48:]), api.ErrMalformed)
	refuses(t, "ds64 of no bytes", "RF64\xff\xff\xff\xffWAVEds64\x00\x00\x00\x00"+s[48:], api.ErrMalformed)
	refuses(t, "ds64 behind fmt", s[:12]+s[48:72]+s[12:48]+s[72:], api.ErrMalformed)
	refuses(t, "ds64 behind data", s[:12]+s[48:84]+s[12:48]+s[84:], api.ErrMalformed)
	refuses(t, "ds64 twice", numbered(s[:48]+s[12:]), api.ErrMalformed)
	refuses(t, "a tag of 3, and the count", swapped(swapped(s, 56, "\x03"), countAt, "\x09"), api.ErrUnsupported)
	refuses(t, "a tag of 3, and the table", swapped(swapped(s, 56, "\x03"), tableAt, "\x09"), api.ErrMalformed)
	refuses(t, "a tag of 3, and data's length", swapped(swapped(s, 56, "\x03"), lengthAt, "\x99"), api.ErrUnsupported)
}

// All of what chance makes of right files: bytes changed, cut out, laid in, with and without numbers that go with it.
func TestParseOfAnyTexts(t *testing.T) {
	r := numbers(622)
	taken := map[api.Errno]int{}
	for range 6000 {
		p := r.any(6)
		s := text(t, p, r.wave(p))
		if parses(t, s) != api.OK {
			t.Fatalf("%q", s)
		}
		for range 3 {
			at := r.below(len(s))
			switch r.below(4) {
			case 0:
				s = swapped(s, at, r.text(1))
			case 1:
				s = swapped(s, at, "\x00")
			case 2:
				s = s[:at] + r.text(1+r.below(3)) + s[at:]
			case 3:
				s = s[:at] + s[min(at+1+r.below(30), len(s)):]
			}
			taken[parses(t, s)]++
			s = numbered(s)
			taken[parses(t, s)]++
			if len(s) == 0 {
				break
			}
		}
	}
	for _, e := range []api.Errno{api.OK, api.ErrMalformed, api.ErrUnsupported} {
		if taken[e] < 500 {
			t.Errorf("%d files answered %d", taken[e], e)
		}
	}
}

// A byte of each value is a sample of 8 bits; the ends of the other widths stand where they must.
func TestSamplesOfEachWidth(t *testing.T) {
	var all []int
	for v := -128; v < 128; v++ {
		all = append(all, v)
	}
	for _, p := range []api.PCM{
		one(8, all...),
		one(16, -32768, -1, 0, 1, 32767, 258),
		one(24, -8388608, -1, 0, 1, 8388607, 66051),
		one(32, -2147483648, -1, 0, 1, 2147483647, 16909060),
	} {
		w := wave("RIFF", p, fmtChunk(40, p), api.Chunk{Id: "data"})
		isParse(t, text(t, p, w), p, w, api.OK)
	}
	two := api.PCM{Rate: 44100, Channels: 2, Width: 16, Planes: [][]int{{1, 2}, {-1, 258}}}
	body := format(16, 2, 44100, 16)
	s := "RIFF\x2c\x00\x00\x00WAVEfmt \x10\x00\x00\x00" + body + "data\x08\x00\x00\x00\x01\x00\xff\xff\x02\x00\x02\x01"
	isParse(t, s, two, api.Wave{Form: "RIFF", Chunks: []api.Chunk{{Id: "fmt ", Body: body}, {Id: "data"}}}, api.OK)
	wide := one(8, -128, 127)
	s = "RIFF\x26\x00\x00\x00WAVEfmt \x10\x00\x00\x00" + format(16, 1, 8000, 8) + "data\x02\x00\x00\x00\x00\xff"
	isParse(t, s, wide, api.Wave{Form: "RIFF", Chunks: []api.Chunk{{Id: "fmt ", Body: format(16, 1, 8000, 8)}, {Id: "data"}}}, api.OK)
}
