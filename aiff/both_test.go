package aiff_test

import (
	"testing"

	"lacquer/aiff"
	"lacquer/api"
	"lacquer/pcm"
)

// Promise 7.4, and T7 of AIFF files.

// comesBack fails, unless s, if it is a file, is what Build makes of what Parse tells; it tells whether it is one.
func comesBack(t *testing.T, s string) bool {
	t.Helper()
	p, a, e := aiff.Parse(s)
	if e != api.OK {
		return false
	}
	if pcm.Fits(api.FormatAiff, p) != api.OK {
		t.Fatalf("Parse(%s): %s does not fit", short(s), short(p))
	}
	isBuild(t, p, a, s, api.OK)
	return true
}

// comesOut fails, unless Parse tells p and a of the file that Build makes of them, if it makes one.
func comesOut(t *testing.T, p api.PCM, a api.Aiff) bool {
	t.Helper()
	s, e := aiff.Build(p, a)
	if e != api.OK {
		return false
	}
	isParse(t, s, p, a, api.OK)
	return true
}

func TestFilesComeBack(t *testing.T) {
	r := numbers(741)
	taken := 0
	for range 5000 {
		p := r.any(8)
		a := r.aiff(p)
		if !comesOut(t, p, a) {
			t.Fatalf("%s %s is not built", short(p), short(a))
		}
		s := text(t, p, a)
		if !comesBack(t, s) {
			t.Fatalf("%s is not taken", short(s))
		}
		for range 4 {
			if comesBack(t, swapped(s, r.below(len(s)), r.text(1))) {
				taken++
			}
		}
	}
	if taken < 1000 {
		t.Errorf("only %d changed files were taken", taken)
	}
}

// Of every PCM that fits Plain's skeleton is one of a file.
func TestPlainComesBack(t *testing.T) {
	r := numbers(742)
	for range 2000 {
		p := r.any(10)
		a := aiff.Plain(p)
		if !comesOut(t, p, a) {
			t.Fatalf("Plain of %s is not built", short(p))
		}
		if s, _ := aiff.Build(p, a); !comesBack(t, s) {
			t.Fatalf("%s is not taken", short(s))
		}
	}
	for _, length := range []int{0, 1, api.MaxSamples} {
		if p := quiet(1, 8, length); !comesOut(t, p, aiff.Plain(p)) {
			t.Errorf("Plain of %d samples is not built", length)
		}
	}
}

// The same samples come out of each kind of file.
func TestKindsHaveTheSame(t *testing.T) {
	r := numbers(743)
	for range 500 {
		p := r.any(8)
		for _, k := range kinds() {
			got, _, e := aiff.Parse(text(t, p, k.aiff(k.comm(p), ssnd(""))))
			if e != api.OK || !pcm.Same(got, p) {
				t.Fatalf("%v: %s, not %s: %d", k, short(got), short(p), e)
			}
		}
	}
}

func FuzzParse(f *testing.F) {
	r := numbers(744)
	f.Add(example)
	f.Add(swapped8000)
	for range 20 {
		p := r.any(4)
		s, _ := buildModel(p, r.aiff(p))
		f.Add(s)
	}
	f.Fuzz(func(t *testing.T, s string) {
		for _, text := range []string{s, mended(s)} {
			parses(t, text)
			if comesBack(t, text) {
				p, a, _ := aiff.Parse(text)
				comesOut(t, p, a)
				comesOut(t, p, aiff.Plain(p))
			}
		}
	})
}
