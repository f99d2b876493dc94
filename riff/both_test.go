package riff_test

import (
	"slices"
	"testing"

	"lacquer/api"
	"lacquer/pcm"
	"lacquer/riff"
)

// Promise 6.4, and T7 of WAV files.

// comesBack fails, unless s, if it is a file, is what Build makes of what Parse tells; it tells whether it is one.
func comesBack(t *testing.T, s string) bool {
	t.Helper()
	p, w, e := riff.Parse(s)
	if e != api.OK {
		return false
	}
	if pcm.Fits(api.FormatWave, p) != api.OK {
		t.Fatalf("Parse(%s): %s does not fit", short(s), short(p))
	}
	isBuild(t, p, w, s, api.OK)
	return true
}

// comesOut fails, unless Parse tells p and w of the file that Build makes of them, if it makes one.
func comesOut(t *testing.T, p api.PCM, w api.Wave) bool {
	t.Helper()
	s, e := riff.Build(p, w)
	if e != api.OK {
		return false
	}
	isParse(t, s, p, w, api.OK)
	return true
}

func TestFilesComeBack(t *testing.T) {
	r := numbers(641)
	taken := 0
	for range 5000 {
		p := r.any(8)
		w := r.wave(p)
		if !comesOut(t, p, w) {
			t.Fatalf("%s %s is not built", short(p), short(w))
		}
		s := text(t, p, w)
		if !comesBack(t, s) {
			t.Fatalf("%s is not taken", short(s))
		}
		for range 4 {
			if comesBack(t, swapped(s, r.below(len(s)), r.text(1))) {
				taken++
			}
		}
	}
	if taken < 1000 {
		t.Errorf("only %d changed files were taken", taken)
	}
}

// Of every PCM that fits Plain's skeleton is one of a file.
func TestPlainComesBack(t *testing.T) {
	r := numbers(642)
	for range 2000 {
		p := r.any(10)
		w := riff.Plain(p)
		if !comesOut(t, p, w) {
			t.Fatalf("Plain of %s is not built", short(p))
		}
		if s, _ := riff.Build(p, w); !comesBack(t, s) {
			t.Fatalf("%s is not taken", short(s))
		}
	}
	for _, length := range []int{0, 1, api.MaxSamples} {
		if p := quiet(1, 8, length); !comesOut(t, p, riff.Plain(p)) {
			t.Errorf("Plain of %d samples is not built", length)
		}
	}
}

// A file whose RIFF is made an RF64, with its ds64, has the same samples.
func TestBothFormsHaveTheSame(t *testing.T) {
	r := numbers(643)
	for range 500 {
		p := r.any(8)
		l := []api.Chunk{fmtChunk(sizes()[r.below(3)], p), {Id: "data"}}
		for _, form := range forms() {
			got, _, e := riff.Parse(text(t, p, wave(form, p, l...)))
			if e != api.OK || !pcm.Same(got, p) {
				t.Fatalf("%s: %s, not %s: %d", form, short(got), short(p), e)
			}
		}
	}
}

// chunksComeBack fails, unless s, if it is chunks, is what Lay makes of them.
func chunksComeBack(t *testing.T, s string, big bool) bool {
	t.Helper()
	l, e := riff.Chunks(s, big)
	if e != api.OK {
		return false
	}
	isLay(t, l, big, s, api.OK)
	return true
}

func TestChunksComeBack(t *testing.T) {
	r := numbers(644)
	taken := 0
	for range 5000 {
		l, big := r.chunks(6), r.below(2) == 0
		if n := len(l); n > 0 && len(l[n-1].Body)%2 == 1 && r.below(2) == 0 {
			l[n-1].Pad = -1
		}
		s, e := riff.Lay(l, big)
		if e != api.OK {
			t.Fatalf("%s: %d", short(l), e)
		}
		got, e := riff.Chunks(s, big)
		if e != api.OK || !slices.Equal(got, l) {
			t.Fatalf("%s became %s: %d", short(l), short(got), e)
		}
		if !chunksComeBack(t, s, big) {
			t.Fatalf("%s is not taken", short(s))
		}
		if len(s) > 0 && chunksComeBack(t, swapped(s, r.below(len(s)), r.text(1)), big) {
			taken++
		}
	}
	if taken < 1000 {
		t.Errorf("only %d changed texts were taken", taken)
	}
}

func FuzzParse(f *testing.F) {
	r := numbers(645)
	f.Add(example, false)
	f.Add("abcd\x01\x00\x00\x00z\x07", true)
	for range 20 {
		p := r.any(4)
		s, _ := buildModel(p, r.wave(p))
		f.Add(s, false)
	}
	f.Fuzz(func(t *testing.T, s string, big bool) {
		for _, text := range []string{s, numbered(s)} {
			parses(t, text)
			if comesBack(t, text) {
				p, w, _ := riff.Parse(text)
				comesOut(t, p, w)
				comesOut(t, p, riff.Plain(p))
			}
		}
		chunks(t, s)
		chunksComeBack(t, s, big)
		if len(s) > 12 {
			chunks(t, s[12:])
			chunksComeBack(t, s[12:], big)
		}
	})
}
