package aiff_test

import (
	"fmt"
	"slices"
	"strings"
	"testing"

	"lacquer/api"
)

// Promise 7.1.

// example is the chapter's file: one sample 1, 16 bits, rate 8000.
const example = "FORM\x00\x00\x00\x30AIFF" +
	"COMM\x00\x00\x00\x12\x00\x01\x00\x00\x00\x01\x00\x10\x40\x0b\xfa\x00\x00\x00\x00\x00\x00\x00" +
	"SSND\x00\x00\x00\x0a\x00\x00\x00\x00\x00\x00\x00\x00\x00\x01"

// swapped8000 is the same as an AIFC with sowt.
const swapped8000 = "FORM\x00\x00\x00\x36AIFC" +
	"COMM\x00\x00\x00\x18\x00\x01\x00\x00\x00\x01\x00\x10\x40\x0b\xfa\x00\x00\x00\x00\x00\x00\x00sowt\x00\x00" +
	"SSND\x00\x00\x00\x0a\x00\x00\x00\x00\x00\x00\x00\x00\x01\x00"

// Places in both.
const (
	commAt        = 12
	channelsAt    = 20
	countAt       = 22
	widthAt       = 26
	rateAt        = 28
	ssndAt        = 38 // in the example alone
	compressionAt = 38 // in the AIFC alone
)

func TestExamplesOfParse(t *testing.T) {
	comm := api.Chunk{Id: "COMM", Body: example[channelsAt:ssndAt]}
	sound := api.Chunk{Id: "SSND", Body: "\x00\x00\x00\x00\x00\x00\x00\x00"}
	isParse(t, example, one(16, 1), api.Aiff{Form: "AIFF", Chunks: []api.Chunk{comm, sound}}, api.OK)
	comm.Body += "sowt\x00\x00"
	isParse(t, swapped8000, one(16, 1), api.Aiff{Form: "AIFC", Chunks: []api.Chunk{comm, sound}}, api.OK)
	comm.Body = comm.Body[:18] + "NONE\x00\x00"
	isParse(t, swapped(swapped8000, compressionAt, "NONE"), one(16, 256), api.Aiff{Form: "AIFC", Chunks: []api.Chunk{comm, sound}}, api.OK)
	answers(t, "fl32", swapped(swapped8000, compressionAt, "fl32"), api.ErrUnsupported)
	answers(t, "a second COMM", mended(example+example[commAt:ssndAt]), api.ErrMalformed)
}

func TestTextsAtTheBeginning(t *testing.T) {
	for _, s := range []string{
		"", "F", "FORM", "RIFF", "hello", "hello, hello", "FORM\x00\x00\x00\x00", "FORM\x00\x00\x00\x03AIF",
		"FORM\x00\x00\x00\x04AIFX", "FORM\x00\x00\x00\x04aiff", "FORM\x00\x00\x00\x04AIF\x00", "form\x00\x00\x00\x04AIFF",
		"RIFF\x00\x00\x00\x04AIFF", "FORM\x00\x00\x00\x048SVX", " FORM\x00\x00\x00\x04AIFF", "AIFF\x00\x00\x00\x04FORM",
		"FORM\x00\x00\x00\x04AIFFx"[:11],
	} {
		answers(t, "a beginning", s, api.ErrUnsupported)
	}
	// Whatever the length says, 12 bytes are a beginning; but no file is so short.
	for _, number := range []string{"\x00\x00\x00\x04", "\x00\x00\x00\x00", "\x00\x00\x00\x03", "\x04\x00\x00\x00", "\xff\xff\xff\xff", "\x00\x00\x00\x0c"} {
		for _, form := range []string{"AIFF", "AIFC"} {
			answers(t, "12 bytes", "FORM"+number+form, api.ErrMalformed)
		}
	}
	for _, whole := range []string{example, swapped8000} {
		for n := range len(whole) {
			want := api.ErrMalformed
			if n < 12 {
				want = api.ErrUnsupported
			}
			answers(t, "cut off", whole[:n], want)
			answers(t, "cut off, with another number", mended(whole[:n]), want)
		}
	}
}

func TestNumberOfFile(t *testing.T) {
	for _, s := range []string{example, swapped8000} {
		for _, n := range []int{0, 1, len(s) - 12, len(s) - 9, len(s) - 7, len(s), 1 << 31, 1<<32 - 1, (len(s) - 8) << 24} {
			answers(t, fmt.Sprint("number ", n), swapped(s, 4, num(n, 4)), api.ErrMalformed)
		}
		answers(t, "a byte behind", s+"x", api.ErrMalformed)
		answers(t, "a byte behind, with its number", mended(s+"x"), api.ErrMalformed)
		answers(t, "as it is", mended(s), api.OK)
	}
}

// Each byte of files with each value: the model tells which is right.
func TestEachByteOfFiles(t *testing.T) {
	p := api.PCM{Rate: 44100, Channels: 2, Width: 24, Planes: [][]int{{1, -2, 3}, {-4, 5, -6}}}
	junk := api.Chunk{Id: "junk", Body: "abc", Pad: 7}
	taken := map[api.Errno]int{}
	for _, k := range kinds() {
		for _, l := range [][]api.Chunk{{junk, k.comm(p), ssnd("xy"), junk}, {ssnd(""), k.comm(p)}} {
			s := text(t, p, k.aiff(l...))
			for at := range len(s) {
				for b := range 256 {
					taken[parses(t, swapped(s, at, string([]byte{byte(b)})))]++
				}
			}
		}
	}
	for _, e := range []api.Errno{api.OK, api.ErrMalformed, api.ErrUnsupported} {
		if taken[e] < 1000 {
			t.Errorf("%d files answered %d", taken[e], e)
		}
	}
}

// skips are offsets of none and of some bytes.
func skips() []string { return []string{"", "x", "\x00\x00", "SSND\x00\x00\x00\x00\x01"} }

func TestKinds(t *testing.T) {
	r := numbers(721)
	for _, k := range kinds() {
		for _, width := range widths() {
			for channels := 1; channels <= api.MaxChannels; channels++ {
				for _, length := range []int{0, 1, 2, 3, 20} {
					for _, skipped := range skips() {
						p := r.pcm(channels, width, length)
						a := k.aiff(k.comm(p), ssnd(skipped))
						isParse(t, text(t, p, a), p, a, api.OK)
					}
				}
			}
		}
	}
}

// The ends of each width, and the order of channels and bytes, spelt out.
func TestSamplesOfEachWidth(t *testing.T) {
	var all []int
	for v := -128; v < 128; v++ {
		all = append(all, v)
	}
	for _, p := range []api.PCM{
		one(8, all...),
		one(16, -32768, -1, 0, 1, 32767, 258),
		one(24, -8388608, -1, 0, 1, 8388607, 66051),
		one(32, -2147483648, -1, 0, 1, 2147483647, 16909060),
	} {
		for _, k := range kinds() {
			a := k.aiff(k.comm(p), ssnd(""))
			isParse(t, text(t, p, a), p, a, api.OK)
		}
	}
	for _, c := range []struct {
		p         api.PCM
		high, low string
	}{
		{one(8, 0, 1, -1, -128), "\x00\x01\xff\x80", "\x00\x01\xff\x80"},
		{one(16, 258, -2), "\x01\x02\xff\xfe", "\x02\x01\xfe\xff"},
		{one(24, 66051, -2), "\x01\x02\x03\xff\xff\xfe", "\x03\x02\x01\xfe\xff\xff"},
		{one(32, 16909060), "\x01\x02\x03\x04", "\x04\x03\x02\x01"},
		{api.PCM{Rate: 1, Channels: 2, Width: 16, Planes: [][]int{{1, 2}, {-1, 258}}},
			"\x00\x01\xff\xff\x00\x02\x01\x02", "\x01\x00\xff\xff\x02\x00\x02\x01"},
	} {
		for _, k := range kinds() {
			samples := c.high
			if k.low() {
				samples = c.low
			}
			s := wrapped(k.form, []api.Chunk{k.comm(c.p), {Id: "SSND", Body: ssnd("abcd").Body + samples}})
			isParse(t, s, c.p, k.aiff(k.comm(c.p), ssnd("abcd")), api.OK)
			isBuild(t, c.p, k.aiff(k.comm(c.p), ssnd("abcd")), s, api.OK)
		}
	}
}

// withComm is a file of no samples whose COMM has this Body.
func withComm(form, body string) string {
	return wrapped(form, []api.Chunk{{Id: "COMM", Body: body, Pad: 5 * (len(body) % 2)}})
}

func TestLengthsOfComm(t *testing.T) {
	plain, named := kind{"AIFF", "", ""}, kind{"AIFC", "NONE", ""}
	long := plain.body(1, 0, 16, rateBytes(8000)) + "NONE" + strings.Repeat("\x00", 40)
	for n := range len(long) + 1 {
		want := api.ErrMalformed
		if n == 18 {
			want = api.OK
		}
		answers(t, fmt.Sprint("COMM of ", n, " bytes in AIFF"), withComm("AIFF", long[:n]), want)
		want = api.ErrMalformed
		if n == 24 {
			want = api.OK
		}
		answers(t, fmt.Sprint("COMM of ", n, " bytes in AIFC"), withComm("AIFC", long[:n]), want)
	}
	answers(t, "an AIFF's COMM in AIFC", withComm("AIFC", plain.body(1, 0, 16, rateBytes(8000))), api.ErrMalformed)
	answers(t, "an AIFC's COMM in AIFF", withComm("AIFF", named.body(1, 0, 16, rateBytes(8000))), api.ErrMalformed)
}

// The byte more is there where it makes the length even, and there alone.
func TestTextsOfComm(t *testing.T) {
	head := kind{"AIFF", "", ""}.body(2, 0, 24, rateBytes(48000))
	for n := range 256 {
		for _, compression := range []string{"NONE", "sowt"} {
			for more := -3; more <= 4; more++ {
				if n+more < 0 {
					continue
				}
				body := head + compression + num(n, 1) + strings.Repeat("t", n+more)
				want := api.ErrMalformed
				if n%2 == 1 && more == 0 || n%2 == 0 && more == 1 {
					want = api.OK
				}
				answers(t, fmt.Sprint("a text of ", n, " bytes, and ", more), withComm("AIFC", body), want)
			}
		}
	}
	// Whatever the text and the byte more are.
	for _, text := range []string{"\x00", "\xff", "\xff\xfe", "\x00\x00", "a\x00b", "not compressed", "Ungepackt \u00e4"} {
		for b := range 256 {
			body := kind{"AIFC", "sowt", text}.body(1, 0, 16, rateBytes(8000))
			if len(text)%2 == 0 {
				body = body[:len(body)-1] + string([]byte{byte(b)})
			}
			want := api.Aiff{Form: "AIFC", Chunks: []api.Chunk{{Id: "COMM", Body: body}}}
			isParse(t, withComm("AIFC", body), one(16), want, api.OK)
		}
	}
}

func TestCompressions(t *testing.T) {
	for _, compression := range []string{
		"fl32", "FL32", "fl64", "none", "None", "NONe", "SOWT", "Sowt", "twos", "raw ", "in24", "in32", "ulaw", "alaw", "ima4",
		"\x00\x00\x00\x00", "    ", "\xff\xff\xff\xff", "two ", "ENON", "twos", "wost",
	} {
		for _, text := range []string{"", "a", "ab"} {
			k := kind{"AIFC", compression, text}
			answers(t, compression, withComm("AIFC", k.body(1, 0, 16, rateBytes(8000))), api.ErrUnsupported)
		}
	}
}

func TestRates(t *testing.T) {
	for _, k := range kinds() {
		for _, rate := range []int{1, 2, 3, 8000, 11025, 22050, 44100, 48000, 65535, 65536, 96000, 192000, 524288, api.MaxRate - 1, api.MaxRate} {
			p := one(16)
			p.Rate = rate
			isParse(t, withComm(k.form, k.comm(p).Body), p, k.aiff(k.comm(p)), api.OK)
		}
		for _, rate := range []string{
			rateBytes(api.MaxRate + 1), rateBytes(1 << 20), rateBytes(1 << 40), rateBytes(1<<62 + 1),
			strings.Repeat("\x00", 10), strings.Repeat("\xff", 10), strings.Repeat("\x01", 10),
			"\x40\x0b\x7a\x00\x00\x00\x00\x00\x00\x00", // its top bit is 0
			"\x40\x0c\x7d\x00\x00\x00\x00\x00\x00\x00", // 8000, but not drawn up to the top
			"\x40\x0b\xfa\x00\x00\x00\x00\x00\x00\x01", // more than 8000 by a bit
			"\x40\x0e\xac\x44\x80\x00\x00\x00\x00\x00", // 44100 and a half
			"\xc0\x0b\xfa\x00\x00\x00\x00\x00\x00\x00", // -8000
			"\x3f\xfe\x80\x00\x00\x00\x00\x00\x00\x00", // a half
			"\x3f\xff\x00\x00\x00\x00\x00\x00\x00\x00", // 0 with an exponent
			"\x7f\xff\x80\x00\x00\x00\x00\x00\x00\x00", // without end
			"\x7f\xff\xc0\x00\x00\x00\x00\x00\x00\x00", // no number
			"\x40\x3e\xff\xff\xff\xff\xff\xff\xff\xff",
			"\x00\x00\xfa\x00\x00\x00\x00\x00\x00\x00",
		} {
			answers(t, fmt.Sprintf("rate % x", rate), withComm(k.form, k.body(1, 0, 16, rate)), api.ErrUnsupported)
		}
	}
}

func TestNumbersOfComm(t *testing.T) {
	for _, k := range kinds() {
		for _, channels := range []int{0, 1, 2, 3, 4, 5, 6, 7, 8, 9, 10, 16, 255, 256, 257, 264, 32768, 65535} {
			for _, width := range []int{0, 1, 4, 7, 8, 9, 12, 15, 16, 17, 20, 23, 24, 25, 31, 32, 33, 40, 48, 64, 256, 264, 65535} {
				for _, count := range []int{0, 1, api.MaxSamples, api.MaxSamples + 1, 1 << 31, 1<<32 - 1} {
					want := api.OK
					switch {
					case channels == 0:
						want = api.ErrMalformed
					case channels > 8 || !slices.Contains(widths(), width):
						want = api.ErrUnsupported
					case count > api.MaxSamples:
						want = api.ErrLarge
					case count > 0: // it wants samples, and there are none
						want = api.ErrMalformed
					}
					what := fmt.Sprint(k, channels, width, count)
					answers(t, what, withComm(k.form, k.body(channels, count, width, rateBytes(8000))), want)
				}
			}
		}
	}
}

// withSsnd is a file whose SSND has this Body.
func withSsnd(k kind, p api.PCM, body string) string {
	return wrapped(k.form, []api.Chunk{k.comm(p), {Id: "SSND", Body: body, Pad: 3 * (len(body) % 2)}})
}

func TestLengthsOfSsnd(t *testing.T) {
	for _, k := range kinds() {
		for _, p := range []api.PCM{one(8), one(8, 1), one(16, 1), one(24, 1, 2), quiet(2, 16, 2), quiet(8, 32, 1)} {
			want := len(packed(p, false))
			for _, offset := range []int{0, 1, 2, 7, 20} {
				for n := range 8 + offset + want + 4 {
					body := (num(offset, 4) + "any\x00" + strings.Repeat("\x11", offset+want+8))[:n]
					e := api.ErrMalformed
					if n == 8+offset+want {
						e = api.OK
					}
					answers(t, fmt.Sprint("SSND of ", n, " bytes, offset ", offset, ", wanted ", want), withSsnd(k, p, body), e)
				}
			}
		}
	}
}

// An offset up to all the bytes that are there, and past it.
func TestOffsets(t *testing.T) {
	for _, k := range kinds() {
		none := one(16)
		for have := range 12 {
			for _, offset := range []int{0, 1, have - 1, have, have + 1, 255, 1 << 31, 1<<31 - 1, 1<<32 - 8, 1<<32 - 1} {
				if offset < 0 {
					continue
				}
				want := api.ErrMalformed
				if offset == have {
					want = api.OK
				}
				s := withSsnd(k, none, num(offset, 4)+"\xff\xfe\xfd\xfc"+strings.Repeat("o", have))
				answers(t, fmt.Sprint("an offset of ", offset, " with ", have), s, want)
			}
		}
		// All that is there is skipped, and the samples lack.
		s := withSsnd(k, one(16, 5), num(2, 4)+"\x00\x00\x00\x00\x00\x05")
		answers(t, "an offset over the samples", s, api.ErrMalformed)
		// The bytes that are skipped and the number may be any.
		p := one(16, 5)
		for _, number := range []string{"\x00\x00\x00\x01", "\xff\xff\xff\xff", "abcd"} {
			start := "\x00\x00\x00\x03" + number + "\x00\xff\x80"
			a := k.aiff(k.comm(p), api.Chunk{Id: "SSND", Body: start, Pad: 3})
			isParse(t, withSsnd(k, p, start+packed(p, k.low())), p, a, api.OK)
		}
	}
}

func TestWithoutSsnd(t *testing.T) {
	for _, k := range kinds() {
		for _, width := range widths() {
			for _, channels := range []int{1, 2, api.MaxChannels} {
				p := quiet(channels, width, 0)
				isParse(t, wrapped(k.form, []api.Chunk{k.comm(p)}), p, k.aiff(k.comm(p)), api.OK)
				isParse(t, wrapped(k.form, []api.Chunk{k.comm(p), ssnd("")}), p, k.aiff(k.comm(p), ssnd("")), api.OK)
				answers(t, "no SSND", wrapped(k.form, []api.Chunk{k.comm(quiet(channels, width, 1))}), api.ErrMalformed)
			}
		}
	}
}

// Foreign chunks stand anywhere, and are told as they are; SSND may stand ahead of COMM.
func TestForeignChunks(t *testing.T) {
	p := one(16, 1, -1, 300)
	odd, empty := api.Chunk{Id: "junk", Body: "odd", Pad: 3}, api.Chunk{Id: "none"}
	last := api.Chunk{Id: "last", Body: "x", Pad: -1}
	for _, k := range kinds() {
		comm, sound := k.comm(p), ssnd("")
		for _, l := range [][]api.Chunk{
			{comm, sound}, {sound, comm},
			{odd, comm, sound}, {empty, odd, odd, comm, sound}, {odd, sound, empty, comm},
			{comm, odd, sound}, {comm, empty, odd, empty, sound}, {sound, odd, comm},
			{comm, sound, odd}, {comm, sound, last}, {sound, comm, empty, odd, empty, last},
			{odd, empty, comm, odd, empty, sound, odd, empty},
			{{Id: "comm"}, {Id: "ssnd", Body: "12"}, comm, {Id: "COMm"}, sound, {Id: "SSND"[:3] + " "}, {Id: "FVER", Body: "\xa2\x80\x51\x40"}},
			{{Id: "FORM"}, {Id: "AIFF"}, {Id: "AIFC"}, comm, sound, {Id: "ID3 ", Body: "1", Pad: 255}},
		} {
			a := k.aiff(l...)
			isParse(t, text(t, p, a), p, a, api.OK)
		}
	}
}

// Each kind of pad, of foreign chunks and of SSND, in the middle and at the very end.
func TestPads(t *testing.T) {
	p := one(8, 1, -2, 3)
	for _, k := range kinds() {
		for pad := range 256 {
			sound := ssnd("")
			sound.Pad = pad
			odd := api.Chunk{Id: "junk", Body: "odd", Pad: pad}
			for _, l := range [][]api.Chunk{{k.comm(p), sound}, {sound, k.comm(p)}, {odd, k.comm(p), sound}, {k.comm(p), sound, odd}} {
				a := k.aiff(l...)
				isParse(t, text(t, p, a), p, a, api.OK)
			}
		}
		sound := ssnd("")
		sound.Pad = -1
		a := k.aiff(k.comm(p), sound)
		isParse(t, text(t, p, a), p, a, api.OK)
		a = k.aiff(k.comm(p), ssnd(""), api.Chunk{Id: "junk", Body: "odd", Pad: -1})
		isParse(t, text(t, p, a), p, a, api.OK)
		// What is skipped counts, too.
		sound = ssnd("s")
		isParse(t, text(t, p, k.aiff(k.comm(p), sound)), p, k.aiff(k.comm(p), sound), api.OK)
		s := wrapped(k.form, []api.Chunk{k.comm(p), {Id: "junk", Body: "odd", Pad: -1}, {Id: "SSND", Body: ssnd("s").Body + "\x01\xfe\x03"}})
		answers(t, "no pad in the middle", s, api.ErrMalformed)
	}
}

// What must be there once, or at most once.
func TestHowOften(t *testing.T) {
	p := one(16, 1, -1)
	junk := api.Chunk{Id: "junk", Body: "x", Pad: 1}
	for _, k := range kinds() {
		comm, other := k.comm(p), k.comm(one(8))
		sound, none := api.Chunk{Id: "SSND", Body: ssnd("").Body + packed(p, k.low())}, ssnd("")
		for _, l := range [][]api.Chunk{
			nil, {junk}, {sound}, {none}, {junk, sound, junk}, {comm}, {comm, junk},
			{comm, comm, sound}, {comm, sound, comm}, {sound, comm, junk, comm}, {comm, other, sound}, {other, comm, sound},
			{comm, {Id: "COMM"}, sound}, {{Id: "COMM"}, comm, sound}, {comm, comm, comm, sound},
			{comm, sound, sound}, {sound, comm, sound}, {comm, sound, none}, {comm, none, sound}, {comm, sound, {Id: "SSND"}},
			{comm, comm, sound, sound}, {sound, sound}, {other, none, none}, {comm, {Id: "SSND"}}, {{Id: "COMM"}, sound},
		} {
			answers(t, k.form+" "+short(l), wrapped(k.form, l), api.ErrMalformed)
		}
	}
}

func TestManyChunks(t *testing.T) {
	p := one(16, 1, -1)
	empty := "more\x00\x00\x00\x00"
	for _, k := range kinds() {
		s := text(t, p, k.aiff(k.comm(p), ssnd("")))
		with := func(ahead, behind string) string { return mended(s[:12] + ahead + s[12:] + behind) }
		rest := api.MaxChunks - 2
		for _, c := range []struct {
			what, s string
			want    api.Errno
		}{
			{"one less", with("", strings.Repeat(empty, rest-1)), api.OK},
			{"MaxChunks", with("", strings.Repeat(empty, rest)), api.OK},
			{"one more", with("", strings.Repeat(empty, rest+1)), api.ErrLarge},
			{"MaxChunks, COMM and SSND last", with(strings.Repeat(empty, rest), ""), api.OK},
			{"one more, SSND last", with(strings.Repeat(empty, rest+1), ""), api.ErrLarge},
			{"many more", with("", strings.Repeat(empty, 2*rest)), api.ErrLarge},
			{"MaxChunks, and a byte", with("", strings.Repeat(empty, rest)+"x"), api.ErrMalformed},
			{"one more, and a byte", with("", strings.Repeat(empty, rest+1)+"x"), api.ErrLarge},
			// Chunks are told ahead of which they are.
			{"one more, and a second COMM ahead", with(s[12:20+number(s[16:20])], strings.Repeat(empty, rest)), api.ErrLarge},
			{"one more, a second COMM", with("", strings.Repeat(empty, rest)+"COMM\x00\x00\x00\x00"), api.ErrLarge},
			{"MaxChunks, a second COMM", with("", strings.Repeat(empty, rest-1)+"COMM\x00\x00\x00\x00"), api.ErrMalformed},
			{"too many, and no COMM", mended(s[:12] + strings.Repeat(empty, api.MaxChunks+1)), api.ErrLarge},
			{"as many, and no COMM", mended(s[:12] + strings.Repeat(empty, api.MaxChunks)), api.ErrMalformed},
		} {
			answers(t, c.what, c.s, c.want)
		}
	}
}

func TestManySamples(t *testing.T) {
	for _, c := range [][2]int{{1, 8}, {2, 16}, {8, 32}} {
		for _, k := range kinds()[1:3] {
			for more := range 2 {
				p := quiet(c[0], c[1], api.MaxSamples+more)
				sound := ssnd("")
				sound.Body += strings.Repeat("\x00", (api.MaxSamples+more)*c[0]*c[1]/8)
				if len(sound.Body)%2 == 1 {
					sound.Pad = -1
				}
				s := wrapped(k.form, []api.Chunk{k.comm(p), sound})
				if more > 0 {
					isParse(t, s, api.PCM{}, api.Aiff{}, api.ErrLarge)
					continue
				}
				isParse(t, s, p, k.aiff(k.comm(p), ssnd("")), api.OK)
			}
		}
	}
	// As many as COMM says are too many, also where there is none of them.
	for _, count := range []int{api.MaxSamples + 1, 1 << 24, 1 << 31, 1<<32 - 1} {
		answers(t, "too many", withComm("AIFF", kind{"AIFF", "", ""}.body(1, count, 8, rateBytes(8000))), api.ErrLarge)
	}
}

// A file of MaxFile bytes, and of one more.
func TestLargeFiles(t *testing.T) {
	p := one(16, 1, 2, 3)
	for _, k := range kinds()[:2] {
		for more := -1; more <= 1; more++ {
			junk := api.Chunk{Id: "junk"}
			size := len(text(t, p, k.aiff(k.comm(p), ssnd(""), junk)))
			junk.Body = strings.Repeat("j", api.MaxFile-size+more)
			if len(junk.Body)%2 == 1 {
				junk.Pad = -1
			}
			a := k.aiff(k.comm(p), ssnd(""), junk)
			s := wrapped(k.form, full(p, a.Chunks, k.low()))
			if len(s) != api.MaxFile+more {
				t.Fatalf("%d bytes", len(s))
			}
			if more > 0 {
				isParse(t, s, api.PCM{}, api.Aiff{}, api.ErrLarge)
				isParse(t, swapped(s, 4, "\x00\x00\x00\x00"), api.PCM{}, api.Aiff{}, api.ErrLarge)
				isParse(t, swapped(s, 0, "form"), api.PCM{}, api.Aiff{}, api.ErrUnsupported)
				isParse(t, swapped(s, 8, "AIFX"), api.PCM{}, api.Aiff{}, api.ErrUnsupported)
				isBuild(t, p, a, "", api.ErrRecipe)
				continue
			}
			isParse(t, s, p, a, api.OK)
			isBuild(t, p, a, s, api.OK)
		}
	}
}

// All of what chance makes of right files: bytes changed, cut out, laid in, with and without the number that goes with it.
func TestParseOfAnyTexts(t *testing.T) {
	r := numbers(722)
	taken := map[api.Errno]int{}
	for range 6000 {
		p := r.any(6)
		s := text(t, p, r.aiff(p))
		if parses(t, s) != api.OK {
			t.Fatalf("%q", s)
		}
		for range 3 {
			at := r.below(len(s))
			switch r.below(4) {
			case 0:
				s = swapped(s, at, r.text(1))
			case 1:
				s = swapped(s, at, "\x00")
			case 2:
				s = s[:at] + r.text(1+r.below(3)) + s[at:]
			case 3:
				s = s[:at] + s[min(at+1+r.below(30), len(s)):]
			}
			taken[parses(t, s)]++
			s = mended(s)
			taken[parses(t, s)]++
			if len(s) == 0 {
				break
			}
		}
	}
	for _, e := range []api.Errno{api.OK, api.ErrMalformed, api.ErrUnsupported} {
		if taken[e] < 500 {
			t.Errorf("%d files answered %d", taken[e], e)
		}
	}
}
