package pcm_test

import (
	"fmt"
	"testing"

	"lacquer/api"
	"lacquer/pcm"
)

// Promise 5.4.

// comesBack fails, unless p, packed and unpacked, is p, in each layout.
func comesBack(t *testing.T, p api.PCM) {
	t.Helper()
	for _, how := range layouts() {
		s, e := pcm.Pack(p, how)
		if e != api.OK || len(s) != pcm.Len(p)*p.Channels*sizeOf(p.Width) {
			t.Fatalf("Pack of %v, %v: %d bytes, error %d", told(p), how, len(s), e)
		}
		q, e := pcm.Unpack(s, p.Rate, p.Channels, p.Width, how)
		answers(t, fmt.Sprint("Unpack of Pack ", how), q, e, p, api.OK)
		if !pcm.Same(p, q) || pcm.Check(q) != api.OK {
			t.Fatalf("%v is not the same", told(q))
		}
	}
}

func TestPackComesBack(t *testing.T) {
	r := numbers(541)
	for _, width := range widths() {
		comesBack(t, one(width, edges(width)...))
		for channels := 1; channels <= 8; channels++ {
			comesBack(t, r.pcm(channels, width, r.below(40)))
		}
	}
	for range 500 {
		comesBack(t, r.any(50))
	}
	comesBack(t, r.pcm(2, 16, api.MaxSamples))
}

// packsAgain fails, unless s, if Unpack takes it, is what Pack makes of the answer.
func packsAgain(t *testing.T, s string, rate, channels, width int, how api.Layout) bool {
	t.Helper()
	p, e := pcm.Unpack(s, rate, channels, width, how)
	if e != api.OK {
		return false
	}
	if p.Rate != rate || p.Channels != channels || p.Width != width || pcm.Check(p) != api.OK {
		t.Fatalf("Unpack(% x): %v", s, told(p))
	}
	got, e := pcm.Pack(p, how)
	texts(t, "Pack of Unpack", got, e, s, api.OK)
	return true
}

func TestUnpackComesBack(t *testing.T) {
	r := numbers(542)
	taken := 0
	for range 3000 {
		channels, width := 1+r.below(8), 4+r.below(29)
		s := r.text(channels * sizeOf(width) * r.below(4))
		for _, how := range layouts() {
			if packsAgain(t, s, 1+r.below(api.MaxRate), channels, width, how) {
				taken++
			}
		}
	}
	// Of whole bytes each text is that of some samples.
	for _, width := range []int{8, 16, 24, 32} {
		for range 100 {
			s := r.text(width / 8 * r.below(50))
			for _, how := range layouts() {
				if !packsAgain(t, s, 48000, 1, width, how) {
					t.Fatalf("% x of width %d is not taken", s, width)
				}
			}
		}
	}
	if taken < 1000 {
		t.Errorf("only %d texts were taken", taken)
	}
}

// joinsAgain fails, unless the slices of p at these places, joined, are p.
func joinsAgain(t *testing.T, p api.PCM, places []int) {
	t.Helper()
	var l []api.PCM
	for i := 1; i < len(places); i++ {
		q, e := pcm.Slice(p, places[i-1], places[i])
		if e != api.OK {
			t.Fatalf("Slice at %v: %d", places, e)
		}
		l = append(l, q)
	}
	got, e := pcm.Join(l)
	answers(t, fmt.Sprint("Join of the slices at ", places), got, e, p, api.OK)
	if !pcm.Same(got, p) {
		t.Fatalf("Join of the slices at %v is not the same", places)
	}
}

func TestSlicesJoinAgain(t *testing.T) {
	r := numbers(543)
	for range 1000 {
		p := r.any(40)
		joinsAgain(t, p, r.places(pcm.Len(p), r.below(12)))
	}
	p := r.pcm(3, 20, 9)
	for a := range 10 {
		joinsAgain(t, p, []int{0, a, 9})
		for b := a; b < 10; b++ {
			joinsAgain(t, p, []int{0, a, b, 9})
		}
	}
	p = r.pcm(2, 16, api.MaxSamples)
	joinsAgain(t, p, r.places(api.MaxSamples, 30))
}

// A part of a part is a part.
func TestSlicesOfSlices(t *testing.T) {
	r := numbers(544)
	for range 300 {
		p := r.any(20)
		outer := r.places(pcm.Len(p), 2)
		q, _ := pcm.Slice(p, outer[1], outer[2])
		inner := r.places(pcm.Len(q), 2)
		got, e := pcm.Slice(q, inner[1], inner[2])
		answers(t, "a part of a part", got, e, part(p, outer[1]+inner[1], outer[1]+inner[2]), api.OK)
	}
}

// Joining goes by bytes, too.
func TestJoinIsOneTextBehindTheOther(t *testing.T) {
	r := numbers(545)
	for range 300 {
		p := r.any(20)
		q := r.pcm(p.Channels, p.Width, r.below(20))
		q.Rate = p.Rate
		whole, _ := pcm.Join([]api.PCM{p, q})
		for _, how := range layouts() {
			a, _ := pcm.Pack(p, how)
			b, _ := pcm.Pack(q, how)
			got, e := pcm.Pack(whole, how)
			texts(t, "Pack of Join", got, e, a+b, api.OK)
		}
	}
}

func FuzzUnpack(f *testing.F) {
	f.Add("\x01\x00\xff\xff", 44100, 2, 16, false, false, 1)
	f.Add("\x00\x10", 8000, 1, 12, false, false, 0)
	f.Add("\x00\x80", 8000, 1, 8, false, true, 1)
	f.Add("", 1, 8, 32, true, true, 0)
	f.Add("abc", 655351, 0, 33, true, false, 2)
	f.Fuzz(func(t *testing.T, s string, rate, channels, width int, big, unsigned bool, place int) {
		how := api.Layout{Big: big, Unsigned: unsigned}
		want, wanted := unpackModel(s, rate, channels, width, how)
		p, e := pcm.Unpack(s, rate, channels, width, how)
		answers(t, "Unpack", p, e, want, wanted)
		if !packsAgain(t, s, rate, channels, width, how) {
			return
		}
		comesBack(t, p)
		length := pcm.Len(p)
		_, e = pcm.Slice(p, place, length)
		if (e == api.OK) != (place >= 0 && place <= length) {
			t.Fatalf("Slice(%d, %d): %d", place, length, e)
		}
		if e == api.OK {
			joinsAgain(t, p, []int{0, place, length})
		}
	})
}
