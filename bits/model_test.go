package bits_test

import (
	"math/big"
	"strings"
	"testing"

	"lacquer/api"
	"lacquer/bits"
)

// The tests hold the package against the chapter's words spelt out on texts of digits '0' and '1'.

const most = 1 << 24 // bits 0 that a unary code may have

// digits is n in width binary digits.
func digits(n uint64, width int) string {
	d := make([]byte, width)
	for i := range d {
		d[width-1-i] = '0' + byte(n&1)
		n >>= 1
	}
	return string(d)
}

// digitsOf is the bits of a text.
func digitsOf(s string) string {
	var d strings.Builder
	for i := range len(s) {
		d.WriteString(digits(uint64(s[i]), 8))
	}
	return d.String()
}

// packed is digits as a text, with bits 0 up to a whole byte.
func packed(d string) string {
	s := make([]byte, (len(d)+7)/8)
	for i := range len(d) {
		s[i/8] |= (d[i] - '0') << (7 - i%8)
	}
	return string(s)
}

// foldedBig is u of 1.1: twice n, or twice -n less 1.
func foldedBig(n int) *big.Int {
	u := big.NewInt(int64(n))
	if n >= 0 {
		return u.Lsh(u, 1)
	}
	u.Neg(u).Lsh(u, 1)
	return u.Sub(u, big.NewInt(1))
}

// riceDigits is the Rice code of n; false, if it may not be.
func riceDigits(n, k int) (string, bool) {
	if k < 0 || k > 30 {
		return "", false
	}
	u := foldedBig(n)
	high := new(big.Int).Rsh(u, uint(k))
	if high.Cmp(big.NewInt(most)) > 0 {
		return "", false
	}
	return strings.Repeat("0", int(high.Int64())) + "1" + digits(u.Uint64(), k), true
}

// numbers is a fixed row of numbers that look like chance (SplitMix64).
type numbers uint64

func (r *numbers) next() uint64 {
	*r += 0x9e3779b97f4a7c15
	x := uint64(*r)
	x = (x ^ x>>30) * 0xbf58476d1ce4e5b9
	x = (x ^ x>>27) * 0x94d049bb133111eb
	return x ^ x>>31
}

func (r *numbers) below(n int) int { return int(r.next() % uint64(n)) }

// hold fails, unless w holds just the digits.
func hold(t *testing.T, w *bits.Writer, want string) {
	t.Helper()
	if w.Len() != len(want) {
		t.Fatalf("Len: %d, not %d", w.Len(), len(want))
	}
	if got := w.Bytes(); got != packed(want) {
		t.Fatalf("Bytes: %.80q, not %.80q", got, packed(want))
	}
}

// stand fails, unless r has passed just at bits and has left just left.
func stand(t *testing.T, r *bits.Reader, at, left int) {
	t.Helper()
	if r.At() != at || r.Left() != left {
		t.Fatalf("At %d, Left %d; not %d, %d", r.At(), r.Left(), at, left)
	}
}

// same fails, unless the error is the wanted one.
func same(t *testing.T, what string, got, want api.Errno) {
	t.Helper()
	if got != want {
		t.Fatalf("%s: error %d, not %d", what, got, want)
	}
}
