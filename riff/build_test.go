package riff_test

import (
	"math"
	"slices"
	"strings"
	"testing"

	"lacquer/api"
	"lacquer/riff"
)

// Promise 6.3.

func TestExamplesOfBuild(t *testing.T) {
	p := one(8, 0, 1, -1)
	w := api.Wave{Form: "RIFF", Chunks: []api.Chunk{{Id: "fmt ", Body: format(16, 1, 8000, 8)}, {Id: "data", Pad: -1}}}
	isBuild(t, p, w, example, api.OK)
	w.Chunks[1].Pad = 7
	isBuild(t, p, w, swapped(example, 4, "\x28")+"\x07", api.OK)
	w.Chunks[1].Pad = 0
	isBuild(t, p, w, swapped(example, 4, "\x28")+"\x00", api.OK)
	isBuild(t, p, riff.Plain(p), swapped(example, 4, "\x28")+"\x00", api.OK)
}

// A PCM that may not be, or does not fit, is told ahead of all else.
func TestBuildOfPcmsThatDoNotFit(t *testing.T) {
	right := one(16, 1, 2)
	w := wave("RIFF", right, fmtChunk(16, right), api.Chunk{Id: "data"})
	change := func(f func(p *api.PCM)) api.PCM {
		p := one(16, 1, 2)
		f(&p)
		return p
	}
	for _, c := range []struct {
		what string
		p    api.PCM
		want api.Errno
	}{
		{"nothing", api.PCM{}, api.ErrPcm},
		{"no rate", change(func(p *api.PCM) { p.Rate = 0 }), api.ErrPcm},
		{"a rate past the limit", change(func(p *api.PCM) { p.Rate = api.MaxRate + 1 }), api.ErrPcm},
		{"no channels", change(func(p *api.PCM) { p.Channels = 0 }), api.ErrPcm},
		{"a plane too few", change(func(p *api.PCM) { p.Channels = 2 }), api.ErrPcm},
		{"9 channels", quiet(9, 16, 2), api.ErrPcm},
		{"a width of 33", change(func(p *api.PCM) { p.Width = 33 }), api.ErrPcm},
		{"a width of 0", change(func(p *api.PCM) { p.Width = 0 }), api.ErrPcm},
		{"a sample too great", one(16, 32768), api.ErrPcm},
		{"a sample too small", one(8, -129), api.ErrPcm},
		{"no sample of 12 bits", one(12, 2048), api.ErrPcm},
		{"planes of two lengths", api.PCM{Rate: 1, Channels: 2, Width: 8, Planes: [][]int{{1}, {}}}, api.ErrPcm},
		{"too many samples", quiet(1, 8, api.MaxSamples+1), api.ErrLarge},
		{"too many samples of 12 bits", quiet(1, 12, api.MaxSamples+1), api.ErrLarge},
		{"12 bits", one(12, 1, 2), api.ErrUnfit},
	} {
		isBuild(t, c.p, api.Wave{}, "", c.want)
		isBuild(t, c.p, w, "", c.want)
		if plain := riff.Plain(c.p); plain.Form != "" || len(plain.Chunks) != 0 {
			t.Errorf("Plain of %s: %s", c.what, short(plain))
		}
	}
	for width := -1; width <= 40; width++ {
		p := one(width, 1, 2)
		_, e := riff.Build(p, riff.Plain(p))
		want := api.ErrUnfit
		if width < 4 || width > 32 {
			want = api.ErrPcm
		} else if width%8 == 0 {
			want = api.OK
		}
		if e != want {
			t.Errorf("width %d: %d", width, e)
		}
	}
}

func TestPlain(t *testing.T) {
	for _, width := range widths() {
		for channels := 1; channels <= api.MaxChannels; channels++ {
			for _, rate := range []int{1, 8000, 44100, api.MaxRate} {
				for _, length := range []int{0, 1, 2, 3} {
					p := quiet(channels, width, length)
					p.Rate = rate
					body := format(16, channels, rate, width)
					if channels > 2 || width > 16 {
						body = swapped(format(40, channels, rate, width), 20, num(1<<channels-1, 4))
					}
					want := api.Wave{Form: "RIFF", Chunks: []api.Chunk{{Id: "fmt ", Body: body}, {Id: "data"}}}
					if got := riff.Plain(p); !likeWave(got, want) {
						t.Fatalf("Plain(%d, %d, %d): %s, not %s", width, channels, rate, short(got), short(want))
					}
					if e := builds(t, p, want); e != api.OK {
						t.Fatalf("Build of Plain: %d", e)
					}
				}
			}
		}
	}
	for _, c := range []struct {
		channels, width int
		want            string
	}{
		{1, 16, "\x01\x00\x01\x00\x44\xac\x00\x00\x88\x58\x01\x00\x02\x00\x10\x00"},
		{3, 8, "\xfe\xff\x03\x00\x44\xac\x00\x00\xcc\x04\x02\x00\x03\x00\x08\x00\x16\x00\x08\x00\x07\x00\x00\x00" + string(guid())},
		{1, 24, "\xfe\xff\x01\x00\x44\xac\x00\x00\xcc\x04\x02\x00\x03\x00\x18\x00\x16\x00\x18\x00\x01\x00\x00\x00" + string(guid())},
	} {
		if got := riff.Plain(quiet(c.channels, c.width, 1)).Chunks[0].Body; got != c.want {
			t.Errorf("%d channels of %d bits: % x", c.channels, c.width, got)
		}
	}
}

func TestBuildOfEachForm(t *testing.T) {
	r := numbers(631)
	for _, form := range forms() {
		for _, size := range sizes() {
			for _, width := range widths() {
				for _, channels := range []int{1, 2, 3, api.MaxChannels} {
					for _, length := range []int{0, 1, 2, 3, 20} {
						p := r.pcm(channels, width, length)
						if e := builds(t, p, wave(form, p, fmtChunk(size, p), api.Chunk{Id: "data"})); e != api.OK {
							t.Fatalf("%s, fmt of %d, %s: %d", form, size, short(p), e)
						}
					}
				}
			}
		}
	}
}

// wrong fails, unless Build of p and w answers ErrRecipe, and the model says so, too.
func wrong(t *testing.T, what string, p api.PCM, w api.Wave) {
	t.Helper()
	if e := builds(t, p, w); e != api.ErrRecipe {
		t.Errorf("%s: Build(%s, %s): %d", what, short(p), short(w), e)
	}
}

func TestSkeletonsOfNoFile(t *testing.T) {
	p := one(8, 1, 2, 3)
	format, data, junk := fmtChunk(16, p), api.Chunk{Id: "data"}, api.Chunk{Id: "junk", Body: "x", Pad: 3}
	full := api.Chunk{Id: "data", Body: packed(p)}
	sizes := api.Chunk{Id: "ds64"}
	for _, c := range []struct {
		what string
		l    []api.Chunk
	}{
		{"no chunks", nil},
		{"no data", []api.Chunk{format}},
		{"no fmt", []api.Chunk{data}},
		{"neither", []api.Chunk{junk}},
		{"data ahead of fmt", []api.Chunk{data, format}},
		{"a second fmt", []api.Chunk{format, data, format}},
		{"a second fmt", []api.Chunk{format, format, data}},
		{"a second data", []api.Chunk{format, data, data}},
		{"a data with a Body", []api.Chunk{format, full}},
		{"a data with a Body", []api.Chunk{format, {Id: "data", Body: "x"}}},
		{"a data with a Body, and one without", []api.Chunk{format, data, full}},
		{"an Id that is none", []api.Chunk{format, data, {Id: "abc\x7f"}}},
		{"an Id that is none", []api.Chunk{{Id: "abc"}, format, data}},
		{"an Id that is none", []api.Chunk{{Id: ""}, format, data}},
		{"a pad past a byte", []api.Chunk{format, data, {Id: "junk", Body: "x", Pad: 256}}},
		{"a pad of -2", []api.Chunk{format, data, {Id: "junk", Body: "x", Pad: -2}}},
		{"a pad of an even Body", []api.Chunk{format, data, {Id: "junk", Body: "xy", Pad: 1}}},
		{"no pad of an even Body", []api.Chunk{format, data, {Id: "junk", Body: "xy", Pad: -1}}},
		{"no pad in the middle", []api.Chunk{{Id: "junk", Body: "x", Pad: -1}, format, data}},
		{"no pad of data in the middle", []api.Chunk{format, {Id: "data", Pad: -1}, junk}},
		{"a pad of data past a byte", []api.Chunk{format, {Id: "data", Pad: 256}}},
		{"a pad of data of -2", []api.Chunk{format, {Id: "data", Pad: -2}}},
		{"a pad of data of the least", []api.Chunk{format, {Id: "data", Pad: math.MinInt}}},
		{"a pad of data of the most", []api.Chunk{format, {Id: "data", Pad: math.MaxInt}}},
		{"a pad of fmt", []api.Chunk{{Id: "fmt ", Body: format.Body, Pad: 1}, data}},
		{"a fmt of 15 bytes", []api.Chunk{{Id: "fmt ", Body: format.Body[:15]}, data}},
		{"a fmt of no bytes", []api.Chunk{{Id: "fmt "}, data}},
		{"a fmt of 20 bytes", []api.Chunk{{Id: "fmt ", Body: format.Body + "\x00\x00\x00\x00"}, data}},
		{"a ds64 in RF64 that is not as it must", []api.Chunk{format, data, sizes}},
	} {
		if c.l == nil || c.l[len(c.l)-1].Id != "ds64" {
			wrong(t, c.what, p, api.Wave{Form: "RIFF", Chunks: c.l})
		}
		long := slices.Insert(slices.Clone(c.l), 0, sizesChunk(p, c.l))
		wrong(t, c.what+", in RF64", p, api.Wave{Form: "RF64", Chunks: long})
	}
	right := []api.Chunk{format, data}
	for _, form := range []string{"", "RIFX", "RIFF ", "riff", "RF64", "WAVE", "RIF", "FORM", "RIFF\x00"} {
		wrong(t, "Form "+form, p, api.Wave{Form: form, Chunks: right})
	}
	for _, form := range []string{"", "RIFX", "RF6", "RF64 ", "rf64"} {
		wrong(t, "Form "+form, p, api.Wave{Form: form, Chunks: wave("RF64", p, right...).Chunks})
	}
	// A pad of data goes with the samples, not with the empty Body.
	wrong(t, "a pad of even samples", one(8, 1, 2), api.Wave{Form: "RIFF", Chunks: []api.Chunk{format, {Id: "data", Pad: 1}}})
	wrong(t, "no pad of even samples", one(8, 1, 2), api.Wave{Form: "RIFF", Chunks: []api.Chunk{format, {Id: "data", Pad: -1}}})
	wrong(t, "no pad of no samples", one(8), api.Wave{Form: "RIFF", Chunks: []api.Chunk{format, {Id: "data", Pad: -1}}})
}

// fmt must say what the PCM is.
func TestFormatOfAnother(t *testing.T) {
	p := api.PCM{Rate: 8000, Channels: 2, Width: 16, Planes: [][]int{{1, 2, 3}, {4, 5, 6}}}
	data := api.Chunk{Id: "data"}
	for _, size := range sizes() {
		for _, c := range [][3]int{{1, 8000, 16}, {4, 8000, 8}, {1, 8000, 32}, {2, 8001, 16}, {2, 8000, 8}, {2, 8000, 24}, {2, 16000, 16}} {
			head := api.Chunk{Id: "fmt ", Body: format(size, c[0], c[1], c[2])}
			for _, form := range forms() {
				wrong(t, "fmt of another", p, wave(form, p, head, data))
			}
		}
	}
	// With no samples all lengths are right, and fmt still tells.
	for _, c := range [][3]int{{2, 8000, 16}, {1, 8001, 16}, {1, 8000, 8}, {9, 8000, 16}} {
		wrong(t, "fmt of another, of no samples", one(16), wave("RIFF", one(16), api.Chunk{Id: "fmt ", Body: format(16, c[0], c[1], c[2])}, data))
	}
	// Each byte of fmt, but the four that may be any.
	for _, size := range sizes() {
		w := wave("RIFF", p, fmtChunk(size, p), data)
		for at := range size {
			body := []byte(w.Chunks[0].Body)
			body[at] ^= 1
			changed := wave("RIFF", p, api.Chunk{Id: "fmt ", Body: string(body)}, data)
			if at >= 20 && at < 24 {
				if e := builds(t, p, changed); e != api.OK {
					t.Errorf("byte %d of %d: %d", at, size, e)
				}
				continue
			}
			wrong(t, "a byte of fmt", p, changed)
		}
	}
}

// The numbers of ds64 must go with the PCM and the other chunks.
func TestSizesOfAnother(t *testing.T) {
	p := one(16, 1, 2, 3)
	w := wave("RF64", p, fmtChunk(16, p), api.Chunk{Id: "data"}, api.Chunk{Id: "junk", Body: "x", Pad: -1})
	for at := range 28 {
		for _, bit := range []byte{1, 128} {
			body := []byte(w.Chunks[0].Body)
			body[at] ^= bit
			l := slices.Clone(w.Chunks)
			l[0].Body = string(body)
			wrong(t, "a byte of ds64", p, api.Wave{Form: "RF64", Chunks: l})
		}
	}
	for _, q := range []api.PCM{one(16, 1, 2), one(16, 1, 2, 3, 4), one(16)} {
		wrong(t, "samples of another length", q, w)
	}
	if e := builds(t, one(16, 7, 8, 9), w); e != api.OK {
		t.Errorf("samples of the same length: %d", e)
	}
	for _, body := range []string{"", w.Chunks[0].Body[:24], w.Chunks[0].Body + "\x00\x00", strings.Repeat("\xff", 28)} {
		l := slices.Clone(w.Chunks)
		l[0].Body = body
		wrong(t, "a ds64 of another length", p, api.Wave{Form: "RF64", Chunks: l})
	}
	l := slices.Clone(w.Chunks)
	l[2].Body, l[2].Pad = "xyz", -1
	wrong(t, "a foreign chunk longer than ds64 says", p, api.Wave{Form: "RF64", Chunks: l})
	wrong(t, "ds64 behind fmt", p, api.Wave{Form: "RF64", Chunks: []api.Chunk{w.Chunks[1], w.Chunks[0], w.Chunks[2], w.Chunks[3]}})
	wrong(t, "no ds64", p, api.Wave{Form: "RF64", Chunks: w.Chunks[1:]})
	if e := builds(t, p, api.Wave{Form: "RIFF", Chunks: w.Chunks}); e != api.OK {
		t.Errorf("ds64 in RIFF: %d", e)
	}
}

func TestBuildOfManyChunks(t *testing.T) {
	p := one(16, 1, 2, 3)
	for _, form := range forms() {
		for more := -1; more <= 1; more++ {
			count := api.MaxChunks - 2 + more
			if form == "RF64" {
				count--
			}
			l := slices.Repeat([]api.Chunk{{Id: "junk", Body: "x", Pad: 1}}, count)
			w := wave(form, p, slices.Insert(l, count/2, fmtChunk(16, p), api.Chunk{Id: "data"})...)
			want := api.OK
			if more > 0 {
				want = api.ErrRecipe
			}
			if e := builds(t, p, w); e != want || len(w.Chunks) != api.MaxChunks+more {
				t.Errorf("%s of %d chunks: %d", form, len(w.Chunks), e)
			}
		}
	}
}

// A skeleton of no file is told ahead of a file that would be too large; a RIFF whose number would need more than 4 bytes is none.
func TestBuildOfLargeFiles(t *testing.T) {
	p := one(16, 1, 2, 3)
	large := strings.Repeat("j", api.MaxFile)
	junk := api.Chunk{Id: "junk", Body: large}
	format, data := fmtChunk(16, p), api.Chunk{Id: "data"}
	for _, c := range []struct {
		what string
		l    []api.Chunk
		want api.Errno
	}{
		{"large", []api.Chunk{format, data, junk}, api.ErrLarge},
		{"large", []api.Chunk{junk, format, data}, api.ErrLarge},
		{"large, and no data", []api.Chunk{junk, format}, api.ErrRecipe},
		{"large, and a pad", []api.Chunk{junk, format, {Id: "data", Pad: 1}}, api.ErrRecipe},
		{"large, and another fmt", []api.Chunk{junk, fmtChunk(16, one(8)), data}, api.ErrRecipe},
		{"large, and an Id", []api.Chunk{{Id: "junk\x00", Body: large}, format, data}, api.ErrRecipe},
	} {
		isBuild(t, p, api.Wave{Form: "RIFF", Chunks: c.l}, "", c.want)
	}
	isBuild(t, p, api.Wave{Form: "RF64", Chunks: []api.Chunk{format, data, junk}}, "", api.ErrRecipe)
	huge := append(slices.Repeat([]api.Chunk{junk}, 64), format, data)
	isBuild(t, p, api.Wave{Form: "RIFF", Chunks: huge[1:]}, "", api.ErrLarge)
	isBuild(t, p, api.Wave{Form: "RIFF", Chunks: huge}, "", api.ErrRecipe)
	sizes := api.Chunk{Id: "ds64", Body: num(4+36+64*(8+api.MaxFile)+24+8+6, 8) + num(6, 8) + num(3, 8) + num(0, 4)}
	isBuild(t, p, api.Wave{Form: "RF64", Chunks: append([]api.Chunk{sizes}, huge...)}, "", api.ErrLarge)
	sizes.Body = swapped(sizes.Body, 0, "\x00")
	isBuild(t, p, api.Wave{Form: "RF64", Chunks: append([]api.Chunk{sizes}, huge...)}, "", api.ErrRecipe)
}

func TestBuildAtTheLimit(t *testing.T) {
	p := quiet(8, 32, api.MaxSamples)
	for i, plane := range p.Planes {
		plane[0], plane[len(plane)-1] = i+1, -i-1
	}
	s, e := riff.Build(p, riff.Plain(p))
	if e != api.OK || len(s) != 12+48+8+32*api.MaxSamples || s[68:68+32] != packed(p)[:32] {
		t.Fatalf("%d bytes, error %d", len(s), e)
	}
	isParse(t, s, p, riff.Plain(p), api.OK)
}

// All of what chance makes of right skeletons.
func TestBuildOfAnySkeletons(t *testing.T) {
	r := numbers(632)
	taken := map[api.Errno]int{}
	for range 5000 {
		p := r.any(6)
		w := r.wave(p)
		if e := builds(t, p, w); e != api.OK {
			t.Fatalf("%s %s: %d", short(p), short(w), e)
		}
		w.Chunks = slices.Clone(w.Chunks)
		i, j := r.below(len(w.Chunks)), r.below(len(w.Chunks))
		switch r.below(7) {
		case 0:
			w.Chunks[i].Pad = r.below(260) - 2
		case 1:
			w.Chunks[i], w.Chunks[j] = w.Chunks[j], w.Chunks[i]
		case 2:
			w.Chunks = slices.Delete(w.Chunks, i, i+1)
		case 3:
			w.Chunks = slices.Insert(w.Chunks, j, w.Chunks[i])
		case 4:
			w.Form = forms()[r.below(2)]
		case 5:
			w.Chunks[i].Body += r.text(1 + r.below(2))
		case 6:
			p = r.pcm(p.Channels, p.Width, len(p.Planes[0]))
		}
		taken[builds(t, p, w)]++
	}
	if taken[api.OK] < 500 || taken[api.ErrRecipe] < 500 {
		t.Errorf("%v", taken)
	}
}
