package flac_test

import (
	"testing"

	"lacquer/api"
	"lacquer/flac"
	"lacquer/pcm"
)

// Promise 14.5, and T7 of FLAC streams.

// comesBack fails, unless s, if it is a file, is what Build makes of what Parse tells; it tells whether it is one.
func comesBack(t *testing.T, s string) bool {
	t.Helper()
	p, f, e := flac.Parse(s)
	if e != api.OK {
		return false
	}
	if pcm.Fits(api.FormatFlac, p) != api.OK {
		t.Fatalf("Parse(%s): %s does not fit", short(s), short(p))
	}
	if u, e := flac.Build(p, f); e != api.OK || u != s {
		t.Fatalf("%s became %s, error %d", short(s), short(u), e)
	}
	return true
}

// comesOut fails, unless Parse tells p and f of the file that Build makes of them, if it makes one.
func comesOut(t *testing.T, p api.PCM, f api.Flac) bool {
	t.Helper()
	s, e := flac.Build(p, f)
	if e != api.OK {
		return false
	}
	tells(t, s, p, f)
	return true
}

func TestFilesComeBack(t *testing.T) {
	r := numbers(1451)
	taken := 0
	for range 5000 {
		p, f := r.file()
		s, _ := layModel(p, f)
		if !comesOut(t, p, f) || !comesBack(t, s) {
			t.Fatalf("%s %s is not taken", short(p), short(f))
		}
		for range 4 {
			if comesBack(t, swapped(s, r.below(len(s)), r.text(1))) {
				taken++
			}
		}
		r.spoil(&p, &f)
		if comesOut(t, p, f) {
			taken++
		}
	}
	if taken < 3000 {
		t.Errorf("only %d changed files were taken", taken)
	}
}

// Of every PCM that fits Plain's skeleton is one of a file, at each level.
func TestPlainComesBack(t *testing.T) {
	r := numbers(1452)
	for n := range 300 {
		length := r.below(1 << r.below(11))
		if n%30 == 0 {
			length = 4096*r.below(3) + r.below(3)
		}
		p := r.sound(1+n%8, 4+n%21, length)
		for level := range 3 {
			f := plain(t, p, level)
			if !comesOut(t, p, f) {
				t.Fatalf("Plain of %s is not built", short(p))
			}
			if s, _ := flac.Build(p, f); !comesBack(t, s) {
				t.Fatalf("%s is not taken", short(s))
			}
		}
	}
}

// The loudest samples that can be, of all rates, have a plain file too.
func TestPlainOfNoise(t *testing.T) {
	r := numbers(1453)
	for _, rate := range []int{1, 9, 44100, 65536, 70011, 655350} {
		for _, width := range []int{4, 5, 17, 24} {
			p := api.PCM{Rate: rate, Channels: 2, Width: width, Planes: silence(2, 1200)}
			for c := range p.Planes {
				p.Planes[c] = make([]int, 1200)
				for k := range p.Planes[c] {
					p.Planes[c][k] = int(r.next()) >> (64 - width)
				}
			}
			for level := range 3 {
				if !comesOut(t, p, plain(t, p, level)) {
					t.Fatalf("Plain of %s is not built", short(p))
				}
			}
		}
	}
}

// FuzzParse looks for texts that are answered otherwise than the chapter says, or that do not come back.
func FuzzParse(f *testing.F) {
	r := numbers(1454)
	f.Add("", 0)
	f.Add("fLaC", 1)
	for level := range 20 {
		p, g := r.fileOf(1+r.below(3), 4+r.below(21), 1+r.below(655350))
		s, _ := layModel(p, g)
		f.Add(s, level%3)
	}
	f.Fuzz(func(t *testing.T, s string, level int) {
		parses(t, s)
		reads(t, s, stream(1+level&7, 16, 44100))
		if !comesBack(t, s) {
			return
		}
		p, g, _ := flac.Parse(s)
		comesOut(t, p, g)
		builds(t, p, g)
		isLarge(t, "with padding", p, g, api.OK)
		if h, e := flac.Plain(p, level); e == api.OK && !comesOut(t, p, h) {
			t.Fatalf("Plain of %s is not built", short(p))
		}
	})
}
