package digest_test

import (
	"strconv"
	"strings"
	"testing"

	"lacquer/digest"
)

// Promise 4.3.

func TestCutAnywhere(t *testing.T) {
	r := numbers(53)
	for _, n := range edges() {
		s := r.text(n)
		want := digest.Of(s)
		for i := range len(s) + 1 {
			what := strconv.Itoa(n) + " bytes cut at " + strconv.Itoa(i)
			same(t, what, added(s[:i], s[i:]).Value(), want)
			same(t, what, added("", s[:i], "", "", s[i:], "").Value(), want)
			holds(t, what, added(s[:i], s[i:]), s)
		}
	}
}

func TestCutInThree(t *testing.T) {
	r := numbers(54)
	s := r.text(150)
	want := model(s)
	for i := range len(s) + 1 {
		for j := i; j <= len(s); j++ {
			what := "cut at " + strconv.Itoa(i) + " and " + strconv.Itoa(j)
			same(t, what, added(s[:i], s[i:j], s[j:]).Value(), want)
		}
	}
}

// Pieces of one length: within a block, a block at a time, and past a block's end.
func TestPiecesOfOneLength(t *testing.T) {
	r := numbers(55)
	s := r.text(1000)
	for n := 1; n <= 200; n++ {
		sum := digest.New()
		for rest := s; rest != ""; {
			count := min(n, len(rest))
			sum.Add(rest[:count])
			rest = rest[count:]
		}
		holds(t, "pieces of "+strconv.Itoa(n), sum, s)
	}
}

func TestManyPieces(t *testing.T) {
	r := numbers(56)
	for range 2000 {
		s := r.text(r.below(700))
		pieces := r.pieces(s, 1+r.below(200))
		holds(t, strconv.Itoa(len(pieces))+" pieces", added(pieces...), s)
		same(t, "the whole", added(pieces...).Value(), digest.Of(s))
	}
}

func TestManyPiecesOfALongText(t *testing.T) {
	r := numbers(57)
	s := r.text(1<<18 + 17)
	holds(t, "a long text", added(r.pieces(s, 5000)...), s)
	holds(t, "its bytes", added(strings.Split(s, "")...), s)
}

// The same bytes in another order, or one that is spoilt, are another digest.
func TestEachSpoiltByteIsTold(t *testing.T) {
	r := numbers(58)
	for _, n := range []int{1, 55, 56, 64, 65, 130} {
		s := r.text(n)
		want := digest.Of(s)
		for i := range len(s) {
			for flip := 1; flip < 256; flip++ {
				b := []byte(s)
				b[i] ^= byte(flip)
				if digest.Of(string(b)) == want {
					t.Fatalf("%d bytes: byte %d xor %d is not told", n, i, flip)
				}
			}
		}
	}
	if added("ab", "c").Value() == added("c", "ab").Value() {
		t.Error("the order of pieces is not told")
	}
}

func FuzzDigest(f *testing.F) {
	f.Add("", 0)
	f.Add("abc", 1)
	f.Add(strings.Repeat("x", 55), 55)
	f.Add(strings.Repeat("x", 56), 3)
	f.Add(strings.Repeat("x", 128), 64)
	f.Fuzz(func(t *testing.T, s string, cut int) {
		cut = int(uint(cut) % uint(len(s)+1))
		same(t, strconv.Quote(s), digest.Of(s), model(s))
		sum := added(s[:cut])
		holds(t, "its beginning", sum, s[:cut])
		sum.Add(s[cut:])
		holds(t, "its pieces", sum, s)
	})
}
