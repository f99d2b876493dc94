package sums_test

import (
	"strconv"
	"strings"
	"testing"

	"lacquer/sums"
)

// Promise 3.3.

// spoil is s with the byte at i xor flip.
func spoil(s string, i, flip int) string {
	b := []byte(s)
	b[i] ^= byte(flip)
	return string(b)
}

func TestEachSpoiltByteIsTold(t *testing.T) {
	r := numbers(36)
	texts := []string{"\x00", "\xff", "123456789", strings.Repeat("\x00", 40), strings.Repeat("\xff", 40), r.text(60)}
	for _, s := range texts {
		for _, k := range kinds() {
			sum := k.call(s)
			for i := range len(s) {
				for flip := 1; flip < 256; flip++ {
					if k.call(spoil(s, i, flip)) == sum {
						t.Fatalf("%s of %q: byte %d xor %d is not told", k.name, s, i, flip)
					}
				}
			}
		}
	}
}

func TestSpoiltBytesOfLongTextsAreTold(t *testing.T) {
	r := numbers(37)
	s := r.text(70000)
	for _, k := range kinds() {
		sum := k.call(s)
		for range 60 {
			i, flip := r.below(len(s)), 1+r.below(255)
			if k.call(spoil(s, i, flip)) == sum {
				t.Fatalf("%s: byte %d xor %d is not told", k.name, i, flip)
			}
		}
		for _, i := range []int{0, len(s) - 1} {
			if k.call(spoil(s, i, 0x80)) == sum {
				t.Fatalf("%s: byte %d is not told", k.name, i)
			}
		}
	}
}

func TestSpoiltPiecesAreTold(t *testing.T) {
	for _, k := range kinds() {
		whole := k.added("one", "two", "three").Value()
		for _, other := range [][]string{{"onE", "two", "three"}, {"one", "Two", "three"}, {"one", "two", "threE"}} {
			if k.added(other...).Value() == whole {
				t.Errorf("%s: %q is not told", k.name, other)
			}
		}
	}
}

func TestCutAnywhere(t *testing.T) {
	s := all256()
	for _, k := range kinds() {
		want := k.call(s)
		for i := range len(s) + 1 {
			what := "pieces at " + strconv.Itoa(i)
			same(t, k, what, k.added(s[:i], s[i:]).Value(), want)
			same(t, k, what, k.added("", s[:i], "", "", s[i:], "").Value(), want)
		}
		same(t, k, "bytes", k.added(strings.Split("123456789", "")...).Value(), k.call("123456789"))
	}
}

func TestCutInThree(t *testing.T) {
	r := numbers(38)
	s := r.text(40)
	for _, k := range kinds() {
		want := k.model(s)
		for i := range len(s) + 1 {
			for j := i; j <= len(s); j++ {
				same(t, k, "three pieces", k.added(s[:i], s[i:j], s[j:]).Value(), want)
			}
		}
	}
}

func TestManyPieces(t *testing.T) {
	r := numbers(39)
	for range 300 {
		s := r.text(r.below(500))
		for _, k := range kinds() {
			same(t, k, strconv.Quote(s), k.added(r.pieces(s)...).Value(), k.call(s))
		}
	}
}

func TestSumBehindItsText(t *testing.T) {
	r := numbers(40)
	for _, s := range []string{"", "\x00", "\x01", "\xff", "123456789", all256()} {
		residue(t, s)
	}
	for range 2000 {
		residue(t, r.text(r.below(100)))
	}
	residue(t, r.text(70000))
}

// residue fails, unless s and behind it its sum has the sum 0, at once and in pieces.
func residue(t *testing.T, s string) {
	t.Helper()
	for _, k := range plain() {
		sum := k.highFirst(k.call(s))
		same(t, k, "a text and its sum", k.call(s+sum), 0)
		same(t, k, "a text, then its sum", k.added(s, sum).Value(), 0)
	}
}

// A spoilt byte is told, too, where it stands in the sum behind the text.
func TestSpoiltSumBehindItsText(t *testing.T) {
	r := numbers(41)
	for range 50 {
		s := r.text(r.below(30))
		for _, k := range plain() {
			sum := k.highFirst(k.call(s))
			for i := range len(sum) {
				for flip := 1; flip < 256; flip++ {
					if k.call(s+spoil(sum, i, flip)) == 0 {
						t.Fatalf("%s of %q: byte %d of the sum xor %d is not told", k.name, s, i, flip)
					}
				}
			}
		}
	}
}

func FuzzSums(f *testing.F) {
	f.Add("123456789", 4)
	f.Add("", 0)
	f.Add("\x00\x00\xff", 2)
	f.Fuzz(func(t *testing.T, s string, cut int) {
		cut = int(uint(cut) % uint(len(s)+1))
		for _, k := range kinds() {
			want := k.model(s)
			same(t, k, strconv.Quote(s), k.call(s), want)
			same(t, k, "its pieces", k.added(s[:cut], s[cut:]).Value(), want)
			if cut < len(s) && k.call(spoil(s, cut, 1+len(s)%255)) == want {
				t.Fatalf("%s of %q: byte %d is not told", k.name, s, cut)
			}
		}
		residue(t, s)
		if sums.New(cut+34) != nil {
			t.Fatalf("New(%d) is a sum", cut+34)
		}
	})
}
