package digest_test

import (
	"crypto/md5"
	"strings"
	"testing"

	"lacquer/digest"
)

// model is the digest of s by another hand than the package's.
func model(s string) string {
	sum := md5.Sum([]byte(s))
	return string(sum[:])
}

// edges are lengths about the ends of blocks, where the bytes behind a text take another block or none.
func edges() []int {
	return []int{0, 1, 2, 3, 4, 5, 54, 55, 56, 57, 58, 62, 63, 64, 65, 66, 118, 119, 120, 121, 127, 128, 129, 183, 184, 185, 191, 192, 193}
}

// added is a sum of pieces, one behind the other.
func added(pieces ...string) *digest.Sum {
	s := digest.New()
	for _, p := range pieces {
		s.Add(p)
	}
	return s
}

// all256 is each byte once.
func all256() string {
	var b strings.Builder
	for i := range 256 {
		b.WriteByte(byte(i))
	}
	return b.String()
}

// numbers is a fixed row of numbers that look like chance (SplitMix64).
type numbers uint64

func (r *numbers) next() uint64 {
	*r += 0x9e3779b97f4a7c15
	x := uint64(*r)
	x = (x ^ x>>30) * 0xbf58476d1ce4e5b9
	x = (x ^ x>>27) * 0x94d049bb133111eb
	return x ^ x>>31
}

func (r *numbers) below(n int) int { return int(r.next() % uint64(n)) }

// text is count bytes.
func (r *numbers) text(count int) string {
	s := make([]byte, count)
	for i := range s {
		s[i] = byte(r.next())
	}
	return string(s)
}

// pieces is s cut at whatever places, empty pieces among them, each of at most most bytes.
func (r *numbers) pieces(s string, most int) []string {
	var row []string
	for s != "" {
		n := min(len(s), r.below(1+r.below(most+1)))
		row = append(row, s[:n])
		s = s[n:]
	}
	return append(row, s)
}

// same fails, unless a digest is the wanted one.
func same(t *testing.T, what, got, want string) {
	t.Helper()
	if got != want {
		t.Fatalf("%s: % x, not % x", what, got, want)
	}
}

// holds fails, unless a sum is that of s, by its digest and its length.
func holds(t *testing.T, what string, sum *digest.Sum, s string) {
	t.Helper()
	same(t, what, sum.Value(), model(s))
	if sum.Len() != len(s) {
		t.Fatalf("%s: Len %d, not %d", what, sum.Len(), len(s))
	}
}
