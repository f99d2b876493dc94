package oggflac_test

import (
	"testing"

	"lacquer/api"
	"lacquer/oggflac"
	"lacquer/pcm"
)

// Promise 16.4, and T7 of FLAC in Ogg.

// comesBack fails, unless s, if it is a file, is what Build makes of what Parse tells; it tells whether it is one.
func comesBack(t *testing.T, s string) bool {
	t.Helper()
	p, o, e := oggflac.Parse(s)
	if e != api.OK {
		return false
	}
	if pcm.Fits(api.FormatOgg, p) != api.OK {
		t.Fatalf("Parse(%s): %s does not fit", short(s), short(p))
	}
	if u, e := oggflac.Build(p, o); e != api.OK || u != s {
		t.Fatalf("%s became %s, error %d", short(s), short(u), e)
	}
	return true
}

// comesOut fails, unless Parse tells p and o of the file that Build makes of them, if it makes one.
func comesOut(t *testing.T, p api.PCM, o api.Ogg) bool {
	t.Helper()
	s, e := oggflac.Build(p, o)
	if e != api.OK {
		return false
	}
	tells(t, s, p, o)
	return true
}

func TestFilesComeBack(t *testing.T) {
	r := numbers(1641)
	taken := 0
	for range 2000 {
		p, o := r.file()
		s, e := oggflac.Build(p, o)
		if e != api.OK || !comesOut(t, p, o) || !comesBack(t, s) {
			t.Fatalf("%s %s is not taken", short(p), short(o))
		}
		for range 6 {
			if comesBack(t, summed(swapped(s, r.below(len(s)), r.text(1)))) {
				taken++
			}
		}
		r.spoil(&p, &o)
		if comesOut(t, p, o) {
			taken++
		}
	}
	if taken < 1500 {
		t.Errorf("only %d changed files were taken", taken)
	}
}

// Of every stream Lay's skeleton is one of a file.
func TestLayComesBack(t *testing.T) {
	r := numbers(1642)
	for range 1000 {
		p, o := r.file()
		x, e := oggflac.Lay(p, o.Flac)
		if e != api.OK || !sameFlac(x.Flac, o.Flac) || !comesOut(t, p, x) {
			t.Fatalf("Lay of %s is not built: %d", short(p), e)
		}
		s, _ := oggflac.Build(p, x)
		if !comesBack(t, s) {
			t.Fatalf("%s is not taken", short(s))
		}
	}
}

// Of every PCM that fits Plain's skeleton is one of a file, at each level.
func TestPlainComesBack(t *testing.T) {
	r := numbers(1643)
	for n := range 200 {
		length := r.below(1 << r.below(11))
		if n%40 == 0 {
			length = 4096*r.below(3) + r.below(3)
		}
		p := r.sound(1+n%8, 4+n%21, length)
		for level := range 3 {
			o, e := oggflac.Plain(p, level)
			if e != api.OK || !comesOut(t, p, o) {
				t.Fatalf("Plain of %s is not built: %d", short(p), e)
			}
		}
	}
}

// FuzzParse looks for texts that are answered otherwise than the chapter says, or that do not come back; also with the sums that their pages have to have.
func FuzzParse(f *testing.F) {
	r := numbers(1644)
	f.Add("", 0)
	f.Add("OggS", 1)
	f.Add(plainSketch().text(), 2)
	for level := range 20 {
		p, o := r.fileOf(1+r.below(3), 4+r.below(21), 1+r.below(655350))
		s, _ := buildModel(p, o)
		f.Add(s, level%3)
	}
	f.Fuzz(func(t *testing.T, s string, level int) {
		parses(t, s)
		s = summed(s)
		parses(t, s)
		if !comesBack(t, s) {
			return
		}
		p, o, _ := oggflac.Parse(s)
		comesOut(t, p, o)
		builds(t, p, o)
		if len(s) < 10000 {
			isLarge(t, "with padding", p, o, api.OK)
		}
		if x, e := oggflac.Lay(p, o.Flac); e != api.OK || !comesOut(t, p, x) {
			t.Fatalf("Lay of %s is not built", short(p))
		}
		if x, e := oggflac.Plain(p, level); e == api.OK && !comesOut(t, p, x) {
			t.Fatalf("Plain of %s is not built", short(p))
		}
	})
}
