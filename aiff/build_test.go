package aiff_test

import (
	"math"
	"slices"
	"strings"
	"testing"

	"lacquer/aiff"
	"lacquer/api"
)

// Promises 7.2 and 7.3.

func TestExamplesOfBuild(t *testing.T) {
	p := one(16, 1)
	sound := api.Chunk{Id: "SSND", Body: "\x00\x00\x00\x00\x00\x00\x00\x00"}
	comm := api.Chunk{Id: "COMM", Body: "\x00\x01\x00\x00\x00\x01\x00\x10\x40\x0b\xfa\x00\x00\x00\x00\x00\x00\x00"}
	isBuild(t, p, api.Aiff{Form: "AIFF", Chunks: []api.Chunk{comm, sound}}, example, api.OK)
	isBuild(t, p, aiff.Plain(p), example, api.OK)
	comm.Body += "sowt\x00\x00"
	isBuild(t, p, api.Aiff{Form: "AIFC", Chunks: []api.Chunk{comm, sound}}, swapped8000, api.OK)
	comm.Body = comm.Body[:18] + "fl32\x00\x00"
	isBuild(t, p, api.Aiff{Form: "AIFC", Chunks: []api.Chunk{comm, sound}}, "", api.ErrRecipe)
}

// A PCM that may not be, or does not fit, is told ahead of all else.
func TestBuildOfPcmsThatDoNotFit(t *testing.T) {
	right := one(16, 1, 2)
	change := func(f func(p *api.PCM)) api.PCM {
		p := one(16, 1, 2)
		f(&p)
		return p
	}
	for _, c := range []struct {
		what string
		p    api.PCM
		want api.Errno
	}{
		{"nothing", api.PCM{}, api.ErrPcm},
		{"no rate", change(func(p *api.PCM) { p.Rate = 0 }), api.ErrPcm},
		{"a rate past the limit", change(func(p *api.PCM) { p.Rate = api.MaxRate + 1 }), api.ErrPcm},
		{"no channels", change(func(p *api.PCM) { p.Channels = 0 }), api.ErrPcm},
		{"a plane too few", change(func(p *api.PCM) { p.Channels = 2 }), api.ErrPcm},
		{"9 channels", quiet(9, 16, 2), api.ErrPcm},
		{"a width of 33", change(func(p *api.PCM) { p.Width = 33 }), api.ErrPcm},
		{"a width of 0", change(func(p *api.PCM) { p.Width = 0 }), api.ErrPcm},
		{"a sample too great", one(16, 32768), api.ErrPcm},
		{"a sample too small", one(8, -129), api.ErrPcm},
		{"no sample of 12 bits", one(12, 2048), api.ErrPcm},
		{"planes of two lengths", api.PCM{Rate: 1, Channels: 2, Width: 8, Planes: [][]int{{1}, {}}}, api.ErrPcm},
		{"too many samples", quiet(1, 8, api.MaxSamples+1), api.ErrLarge},
		{"too many samples of 12 bits", quiet(1, 12, api.MaxSamples+1), api.ErrLarge},
		{"12 bits", one(12, 1, 2), api.ErrUnfit},
		{"4 bits", one(4, 1, 2), api.ErrUnfit},
	} {
		isBuild(t, c.p, api.Aiff{}, "", c.want)
		isBuild(t, c.p, api.Aiff{Form: "AIFF"}, "", c.want)
		for _, k := range kinds() {
			isBuild(t, c.p, k.aiff(k.comm(right), ssnd("")), "", c.want)
		}
		if plain := aiff.Plain(c.p); plain.Form != "" || len(plain.Chunks) != 0 {
			t.Errorf("Plain of %s: %s", c.what, short(plain))
		}
	}
	for width := -1; width <= 40; width++ {
		p := one(width, 1, 2)
		_, e := aiff.Build(p, aiff.Plain(p))
		want := api.ErrUnfit
		if width < 4 || width > 32 {
			want = api.ErrPcm
		} else if width%8 == 0 {
			want = api.OK
		}
		if e != want {
			t.Errorf("width %d: %d", width, e)
		}
	}
}

func TestPlain(t *testing.T) {
	for _, width := range widths() {
		for channels := 1; channels <= api.MaxChannels; channels++ {
			for _, rate := range []int{1, 8000, 44100, api.MaxRate} {
				for _, length := range []int{0, 1, 2, 3, 300} {
					p := quiet(channels, width, length)
					p.Rate = rate
					want := api.Aiff{Form: "AIFF", Chunks: []api.Chunk{
						{Id: "COMM", Body: num(channels, 2) + num(length, 4) + num(width, 2) + rateBytes(rate)},
						{Id: "SSND", Body: "\x00\x00\x00\x00\x00\x00\x00\x00"},
					}}
					if got := aiff.Plain(p); !likeAiff(got, want) {
						t.Fatalf("Plain(%d, %d, %d): %s, not %s", width, channels, rate, short(got), short(want))
					}
					if e := builds(t, p, want); e != api.OK {
						t.Fatalf("Build of Plain: %d", e)
					}
				}
			}
		}
	}
	got := aiff.Plain(quiet(2, 24, 258)).Chunks[0].Body
	if want := "\x00\x02\x00\x00\x01\x02\x00\x18\x40\x0e\xac\x44\x00\x00\x00\x00\x00\x00"; got != want {
		t.Errorf("% x", got)
	}
	p := quiet(1, 8, api.MaxSamples)
	if got := aiff.Plain(p).Chunks[0].Body[:8]; got != "\x00\x01\x00\x10\x00\x00\x00\x08" {
		t.Errorf("% x", got)
	}
}

func TestBuildOfEachKind(t *testing.T) {
	r := numbers(731)
	for _, k := range kinds() {
		for _, width := range widths() {
			for _, channels := range []int{1, 2, 3, api.MaxChannels} {
				for _, length := range []int{0, 1, 2, 3, 20} {
					for _, skipped := range skips() {
						p := r.pcm(channels, width, length)
						if e := builds(t, p, k.aiff(k.comm(p), ssnd(skipped))); e != api.OK {
							t.Fatalf("%v, %s: %d", k, short(p), e)
						}
						if e := builds(t, p, k.aiff(ssnd(skipped), k.comm(p))); e != api.OK {
							t.Fatalf("%v, %s: %d", k, short(p), e)
						}
					}
				}
			}
		}
	}
}

// The samples stand with the highest byte first, but with sowt; an AIFF has no sowt, whatever its chunks hold.
func TestOrderOfBytes(t *testing.T) {
	p := one(16, 258, -2)
	for _, k := range kinds() {
		s, e := aiff.Build(p, k.aiff(k.comm(p), ssnd("")))
		want := "\x01\x02\xff\xfe"
		if k.low() {
			want = "\x02\x01\xfe\xff"
		}
		if e != api.OK || s[len(s)-4:] != want {
			t.Errorf("%v: % x, %d", k, s[max(0, len(s)-4):], e)
		}
	}
	plain := kind{"AIFF", "", ""}
	s, e := aiff.Build(p, plain.aiff(plain.comm(p), api.Chunk{Id: "sowt", Body: "sowt"}, ssnd("sowt")))
	if e != api.OK || s[len(s)-4:] != "\x01\x02\xff\xfe" {
		t.Errorf("%q %d", s, e)
	}
}

// wrong fails, unless Build of p and a answers ErrRecipe, and the model says so, too.
func wrong(t *testing.T, what string, p api.PCM, a api.Aiff) {
	t.Helper()
	if e := builds(t, p, a); e != api.ErrRecipe {
		t.Errorf("%s: Build(%s, %s): %d", what, short(p), short(a), e)
	}
}

func TestSkeletonsOfNoFile(t *testing.T) {
	p := one(8, 1, 2, 3)
	junk := api.Chunk{Id: "junk", Body: "x", Pad: 3}
	for _, k := range kinds() {
		comm, sound := k.comm(p), ssnd("")
		padded := func(pad int) api.Chunk { return api.Chunk{Id: "SSND", Body: sound.Body, Pad: pad} }
		for _, c := range []struct {
			what string
			l    []api.Chunk
		}{
			{"no chunks", nil},
			{"no chunks", []api.Chunk{}},
			{"no SSND", []api.Chunk{comm}},
			{"no COMM", []api.Chunk{sound}},
			{"neither", []api.Chunk{junk}},
			{"a second COMM", []api.Chunk{comm, sound, comm}},
			{"a second COMM", []api.Chunk{comm, comm, sound}},
			{"a second COMM of no bytes", []api.Chunk{comm, sound, {Id: "COMM"}}},
			{"a second SSND", []api.Chunk{comm, sound, sound}},
			{"a second SSND of no bytes", []api.Chunk{comm, sound, {Id: "SSND"}}},
			{"an SSND of no bytes", []api.Chunk{comm, {Id: "SSND"}}},
			{"an SSND of 7 bytes", []api.Chunk{comm, {Id: "SSND", Body: sound.Body[:7]}}},
			{"an SSND of 9 bytes", []api.Chunk{comm, {Id: "SSND", Body: sound.Body + "x"}}},
			{"an SSND with the samples", []api.Chunk{comm, {Id: "SSND", Body: sound.Body + packed(p, k.low())}}},
			{"an offset too great", []api.Chunk{comm, {Id: "SSND", Body: "\x00\x00\x00\x01\x00\x00\x00\x00"}}},
			{"an offset of the samples", []api.Chunk{comm, {Id: "SSND", Body: "\x00\x00\x00\x03\x00\x00\x00\x00"}}},
			{"an offset too great", []api.Chunk{comm, {Id: "SSND", Body: "\xff\xff\xff\xff\x00\x00\x00\x00"}}},
			{"an offset too small", []api.Chunk{comm, {Id: "SSND", Body: "\x00\x00\x00\x01\x00\x00\x00\x00xy"}}},
			{"an Id that is none", []api.Chunk{comm, sound, {Id: "abc\x7f"}}},
			{"an Id that is none", []api.Chunk{{Id: "abc"}, comm, sound}},
			{"an Id that is none", []api.Chunk{{Id: ""}, comm, sound}},
			{"an Id that is none", []api.Chunk{comm, {Id: "COMM "}, sound}},
			{"a pad past a byte", []api.Chunk{comm, sound, {Id: "junk", Body: "x", Pad: 256}}},
			{"a pad of -2", []api.Chunk{comm, sound, {Id: "junk", Body: "x", Pad: -2}}},
			{"a pad of an even Body", []api.Chunk{comm, sound, {Id: "junk", Body: "xy", Pad: 1}}},
			{"no pad of an even Body", []api.Chunk{comm, sound, {Id: "junk", Body: "xy", Pad: -1}}},
			{"no pad in the middle", []api.Chunk{{Id: "junk", Body: "x", Pad: -1}, comm, sound}},
			{"no pad of SSND in the middle", []api.Chunk{comm, padded(-1), junk}},
			{"no pad of SSND ahead of COMM", []api.Chunk{padded(-1), comm}},
			{"a pad of SSND past a byte", []api.Chunk{comm, padded(256)}},
			{"a pad of SSND of -2", []api.Chunk{comm, padded(-2)}},
			{"a pad of SSND of the least", []api.Chunk{comm, padded(math.MinInt)}},
			{"a pad of SSND of the most", []api.Chunk{comm, padded(math.MaxInt)}},
			{"a pad of COMM", []api.Chunk{{Id: "COMM", Body: comm.Body, Pad: 1}, sound}},
			{"a COMM that is short", []api.Chunk{{Id: "COMM", Body: comm.Body[:17]}, sound}},
			{"a COMM that is long", []api.Chunk{{Id: "COMM", Body: comm.Body + "\x00"}, sound}},
			{"a COMM that is long", []api.Chunk{{Id: "COMM", Body: comm.Body + "\x00\x00"}, sound}},
			{"a COMM of no bytes", []api.Chunk{{Id: "COMM"}, sound}},
		} {
			wrong(t, c.what, p, k.aiff(c.l...))
		}
		for _, form := range []string{"", "AIF", "AIFX", "aiff", "AIFF ", "FORM", "AIFC\x00", "COMM"} {
			wrong(t, "Form "+form, p, api.Aiff{Form: form, Chunks: []api.Chunk{comm, sound}})
		}
		other := map[string]string{"AIFF": "AIFC", "AIFC": "AIFF"}[k.form]
		wrong(t, "the other form", p, api.Aiff{Form: other, Chunks: []api.Chunk{comm, sound}})
		// SSND's Pad goes with the samples behind it, not with the Body alone.
		two := one(8, 1, 2)
		wrong(t, "a pad of even samples", two, k.aiff(k.comm(two), padded(1)))
		wrong(t, "no pad of even samples", two, k.aiff(k.comm(two), padded(-1)))
		wrong(t, "no pad of no samples", one(8), k.aiff(k.comm(one(8)), padded(-1)))
		for _, pad := range []int{-1, 0, 1, 255} {
			if e := builds(t, p, k.aiff(comm, padded(pad))); e != api.OK {
				t.Errorf("a pad of %d: %d", pad, e)
			}
		}
	}
}

// Without samples SSND may lack.
func TestBuildWithoutSsnd(t *testing.T) {
	for _, k := range kinds() {
		for _, width := range widths() {
			for _, channels := range []int{1, 2, api.MaxChannels} {
				none, some := quiet(channels, width, 0), quiet(channels, width, 1)
				if e := builds(t, none, k.aiff(k.comm(none))); e != api.OK {
					t.Errorf("%v: %d", k, e)
				}
				if e := builds(t, none, k.aiff(k.comm(none), ssnd("skipped"))); e != api.OK {
					t.Errorf("%v: %d", k, e)
				}
				wrong(t, "no SSND", some, k.aiff(k.comm(some)))
				wrong(t, "no SSND, and a COMM of no samples", some, k.aiff(k.comm(none)))
				wrong(t, "a COMM of samples", none, k.aiff(k.comm(some)))
			}
		}
	}
}

// COMM must say what the PCM is.
func TestCommOfAnother(t *testing.T) {
	p := api.PCM{Rate: 8000, Channels: 2, Width: 16, Planes: [][]int{{1, 2, 3, 4}, {5, 6, 7, 8}}}
	for _, k := range kinds() {
		for _, c := range [][4]int{
			{1, 8, 16, 8000}, {1, 4, 32, 8000}, {4, 4, 8, 8000}, {4, 2, 16, 8000}, {2, 2, 32, 8000}, {2, 8, 8, 8000}, {8, 1, 16, 8000},
			{2, 4, 16, 8001}, {2, 4, 16, 16000}, {2, 3, 16, 8000}, {2, 5, 16, 8000}, {2, 0, 16, 8000}, {0, 4, 16, 8000}, {9, 4, 16, 8000},
		} {
			comm := api.Chunk{Id: "COMM", Body: k.body(c[0], c[1], c[2], rateBytes(c[3]))}
			wrong(t, "COMM of another", p, k.aiff(comm, ssnd("")))
		}
		// With no samples all lengths are right, and COMM still tells.
		for _, c := range [][4]int{{2, 0, 16, 8000}, {1, 0, 8, 8000}, {1, 0, 16, 8001}, {1, 1, 16, 8000}} {
			comm := api.Chunk{Id: "COMM", Body: k.body(c[0], c[1], c[2], rateBytes(c[3]))}
			wrong(t, "COMM of another, of no samples", one(16), k.aiff(comm, ssnd("")))
			wrong(t, "COMM of another, without SSND", one(16), k.aiff(comm))
		}
		// Each byte of what COMM says; behind that the text and the byte more may be any.
		comm := k.comm(p)
		for at := range len(comm.Body) {
			for _, bit := range []byte{1, 64, 128} {
				body := []byte(comm.Body)
				body[at] ^= bit
				changed := k.aiff(api.Chunk{Id: "COMM", Body: string(body)}, ssnd(""))
				// An even text with its byte more is as long as the odd one that has it for its last byte.
				if at >= 23 || at == 22 && bit == 1 {
					if e := builds(t, p, changed); e != api.OK {
						t.Errorf("%v, byte %d: %d", k, at, e)
					}
					continue
				}
				wrong(t, "a byte of COMM", p, changed)
			}
		}
	}
}

// Of SSND's beginning the offset is told by its length, the rest may be any.
func TestStartsOfSsnd(t *testing.T) {
	p := one(16, 1, 2, 3)
	for _, k := range kinds() {
		sound := ssnd("skipped.")
		for at := range len(sound.Body) {
			for _, bit := range []byte{1, 128} {
				body := []byte(sound.Body)
				body[at] ^= bit
				changed := k.aiff(k.comm(p), api.Chunk{Id: "SSND", Body: string(body)})
				if at < 4 {
					wrong(t, "a byte of the offset", p, changed)
				} else if e := builds(t, p, changed); e != api.OK {
					t.Errorf("byte %d: %d", at, e)
				}
			}
		}
		for offset := range 40 {
			for have := range 40 {
				sound := api.Chunk{Id: "SSND", Body: num(offset, 4) + "\x00\x00\x00\x00" + strings.Repeat("s", have), Pad: have % 2}
				e := builds(t, p, k.aiff(k.comm(p), sound))
				if (e == api.OK) != (offset == have) {
					t.Errorf("an offset of %d with %d bytes: %d", offset, have, e)
				}
			}
		}
	}
}

func TestBuildOfManyChunks(t *testing.T) {
	p := one(16, 1, 2, 3)
	for _, k := range kinds() {
		for more := -1; more <= 1; more++ {
			count := api.MaxChunks - 2 + more
			l := slices.Repeat([]api.Chunk{{Id: "junk", Body: "x", Pad: 1}}, count)
			a := k.aiff(slices.Insert(l, count/2, k.comm(p), ssnd(""))...)
			e := builds(t, p, a)
			if (e == api.OK) != (more <= 0) {
				t.Errorf("%d chunks: %d", len(a.Chunks), e)
			}
		}
	}
}

// A file that would have more than MaxFile bytes is none that Parse could have told of.
func TestBuildOfLargeFiles(t *testing.T) {
	p := one(16, 1, 2, 3)
	large := api.Chunk{Id: "junk", Body: strings.Repeat("j", api.MaxFile)}
	k := kind{"AIFF", "", ""}
	for _, l := range [][]api.Chunk{
		{k.comm(p), ssnd(""), large}, {large, k.comm(p), ssnd("")}, {k.comm(p), ssnd(large.Body)},
		append(slices.Repeat([]api.Chunk{large}, 100), k.comm(p), ssnd("")),
	} {
		isBuild(t, p, k.aiff(l...), "", api.ErrRecipe)
	}
	// As many bytes as can be, the samples and what is skipped among them; one more chunk is too much.
	rest := api.MaxFile - (12 + 8 + 18 + 8 + 8 + 6)
	most := k.aiff(k.comm(p), ssnd(strings.Repeat("s", rest)))
	s, e := aiff.Build(p, most)
	if e != api.OK || len(s) != api.MaxFile {
		t.Fatalf("%d bytes, error %d", len(s), e)
	}
	isBuild(t, p, k.aiff(append(most.Chunks, api.Chunk{Id: "more"})...), "", api.ErrRecipe)
	isBuild(t, p, k.aiff(k.comm(p), ssnd(strings.Repeat("s", rest+1))), "", api.ErrRecipe)
	isBuild(t, p, k.aiff(k.comm(p), ssnd(strings.Repeat("s", rest+2))), "", api.ErrRecipe)
}

func TestBuildAtTheLimit(t *testing.T) {
	p := quiet(8, 32, api.MaxSamples)
	for i, plane := range p.Planes {
		plane[0], plane[len(plane)-1] = i+1, -i-1
	}
	s, e := aiff.Build(p, aiff.Plain(p))
	if e != api.OK || len(s) != 12+26+16+32*api.MaxSamples || s[54:62] != "\x00\x00\x00\x01\x00\x00\x00\x02" {
		t.Fatalf("%d bytes, error %d", len(s), e)
	}
	isParse(t, s, p, aiff.Plain(p), api.OK)
}

// All of what chance makes of right skeletons.
func TestBuildOfAnySkeletons(t *testing.T) {
	r := numbers(732)
	taken := map[api.Errno]int{}
	for range 5000 {
		p := r.any(6)
		a := r.aiff(p)
		if e := builds(t, p, a); e != api.OK {
			t.Fatalf("%s %s: %d", short(p), short(a), e)
		}
		a.Chunks = slices.Clone(a.Chunks)
		i, j := r.below(len(a.Chunks)), r.below(len(a.Chunks))
		switch r.below(8) {
		case 0:
			a.Chunks[i].Pad = r.below(260) - 2
		case 1:
			a.Chunks[i], a.Chunks[j] = a.Chunks[j], a.Chunks[i]
		case 2:
			a.Chunks = slices.Delete(a.Chunks, i, i+1)
		case 3:
			a.Chunks = slices.Insert(a.Chunks, j, a.Chunks[i])
		case 4:
			a.Form = []string{"AIFF", "AIFC"}[r.below(2)]
		case 5:
			a.Chunks[i].Body += r.text(1 + r.below(2))
		case 6:
			rate := p.Rate
			p = r.pcm(p.Channels, p.Width, len(p.Planes[0]))
			p.Rate = rate
		case 7:
			if n := len(a.Chunks[i].Body); n > 0 {
				a.Chunks[i].Body = swapped(a.Chunks[i].Body, r.below(n), r.text(1))
			}
		}
		taken[builds(t, p, a)]++
	}
	if taken[api.OK] < 500 || taken[api.ErrRecipe] < 500 {
		t.Errorf("%v", taken)
	}
}
