package sums_test

import (
	"slices"
	"strings"
	"testing"

	"lacquer/sums"
)

// The tests hold the package against the division of polynomials that its sums are: a text is a row of coefficients, each 0 or 1.

// kind is one of the four sums: its number, how many bytes it has, its polynomial as a row (the highest power first), and its call.
type kind struct {
	name       string
	number     int
	bytes      int
	polynomial []byte
	call       func(string) int
}

func kinds() []kind {
	return []kind{
		{"Crc8", 8, 1, powers(8, 2, 1, 0), sums.Crc8},
		{"Crc16", 16, 2, powers(16, 15, 2, 0), sums.Crc16},
		{"Ogg", 32, 4, powers(32, 26, 23, 22, 16, 12, 11, 10, 8, 7, 5, 4, 2, 1, 0), sums.Ogg},
		{"Crc32", 33, 4, powers(32, 26, 23, 22, 16, 12, 11, 10, 8, 7, 5, 4, 2, 1, 0), sums.Crc32},
	}
}

// plain are the kinds that begin from 0 on and are not turned.
func plain() []kind { return kinds()[:3] }

// powers is the polynomial that has these powers, the highest of them first.
func powers(row ...int) []byte {
	p := make([]byte, row[0]+1)
	for _, n := range row {
		p[row[0]-n] = 1
	}
	return p
}

// model is the sum of s by division.
func (k kind) model(s string) int {
	low := k.number == 33
	var row []byte
	for i := range len(s) {
		row = append(row, coefficients(s[i], low)...)
	}
	row = append(row, make([]byte, 8*k.bytes)...)
	if low {
		turnOver(row[:32])
	}
	left := k.rest(row)
	if low {
		turnOver(left)
		slices.Reverse(left)
	}
	n := 0
	for _, bit := range left {
		n = 2*n + int(bit)
	}
	return n
}

// coefficients are a byte's bits, the highest first or the lowest first.
func coefficients(b byte, low bool) []byte {
	row := make([]byte, 8)
	for i := range row {
		row[i] = b >> (7 - i) & 1
	}
	if low {
		slices.Reverse(row)
	}
	return row
}

// turnOver makes each 0 a 1, and each 1 a 0.
func turnOver(row []byte) {
	for i := range row {
		row[i] = 1 - row[i]
	}
}

// rest is what the division by the polynomial leaves of row, which is changed.
func (k kind) rest(row []byte) []byte {
	end := len(row) - 8*k.bytes
	for i := range end {
		if row[i] == 0 {
			continue
		}
		for j, p := range k.polynomial {
			row[i+j] ^= p
		}
	}
	return row[end:]
}

// highFirst is a sum in the kind's bytes, the highest first.
func (k kind) highFirst(sum int) string {
	b := make([]byte, k.bytes)
	for i := range b {
		b[i] = byte(sum >> (8 * (k.bytes - 1 - i)))
	}
	return string(b)
}

// added is a sum of pieces, one behind the other.
func (k kind) added(pieces ...string) *sums.Sum {
	s := sums.New(k.number)
	for _, p := range pieces {
		s.Add(p)
	}
	return s
}

// all256 is each byte once.
func all256() string {
	var b strings.Builder
	for i := range 256 {
		b.WriteByte(byte(i))
	}
	return b.String()
}

// numbers is a fixed row of numbers that look like chance (SplitMix64).
type numbers uint64

func (r *numbers) next() uint64 {
	*r += 0x9e3779b97f4a7c15
	x := uint64(*r)
	x = (x ^ x>>30) * 0xbf58476d1ce4e5b9
	x = (x ^ x>>27) * 0x94d049bb133111eb
	return x ^ x>>31
}

func (r *numbers) below(n int) int { return int(r.next() % uint64(n)) }

// text is count bytes.
func (r *numbers) text(count int) string {
	s := make([]byte, count)
	for i := range s {
		s[i] = byte(r.next())
	}
	return string(s)
}

// pieces is s cut at whatever places, empty pieces among them.
func (r *numbers) pieces(s string) []string {
	var row []string
	for s != "" {
		n := min(len(s), r.below(1+r.below(40)))
		row = append(row, s[:n])
		s = s[n:]
	}
	return append(row, s)
}

// same fails, unless a sum is the wanted one.
func same(t *testing.T, k kind, what string, got, want int) {
	t.Helper()
	if got != want {
		t.Fatalf("%s of %s: %d, not %d", k.name, what, got, want)
	}
}
