package bytes_test

import (
	"fmt"
	"math"
	"math/big"
	"testing"

	"lacquer/api"
	"lacquer/bytes"
)

// Promise 2.1.

// write fails, unless Le and Be of n answer what the model says.
func write(t *testing.T, n, width int) {
	t.Helper()
	want, may := bigFirst(big.NewInt(int64(n)), width)
	wanted := api.OK
	if !may {
		wanted = api.ErrWidth
	}
	s, e := bytes.Be(n, width)
	text(t, fmt.Sprintf("Be(%d, %d)", n, width), s, e, want, wanted)
	s, e = bytes.Le(n, width)
	text(t, fmt.Sprintf("Le(%d, %d)", n, width), s, e, turned(want), wanted)
}

// read fails, unless FromLe and FromBe of s answer what the model says.
func read(t *testing.T, s string) {
	t.Helper()
	if got, want := bytes.FromBe(s), fromBigFirst(s); got != want {
		t.Fatalf("FromBe(% x): %d, not %d", s, got, want)
	}
	want := fromBigFirst(turned(s))
	if got := bytes.FromLe(s); got != want {
		t.Fatalf("FromLe(% x): %d, not %d", s, got, want)
	}
}

func TestExamplesOfEnds(t *testing.T) {
	s, e := bytes.Le(258, 2)
	text(t, "Le", s, e, "\x02\x01", api.OK)
	s, e = bytes.Be(258, 2)
	text(t, "Be", s, e, "\x01\x02", api.OK)
	s, e = bytes.Le(256, 1)
	text(t, "Le", s, e, "", api.ErrWidth)
	s, e = bytes.Le(-1, 8)
	text(t, "Le", s, e, "", api.ErrWidth)
	s, e = bytes.Be(-1, 8)
	text(t, "Be", s, e, "", api.ErrWidth)
	s, e = bytes.Be(0x0102030405060708, 8)
	text(t, "Be", s, e, "\x01\x02\x03\x04\x05\x06\x07\x08", api.OK)
	s, e = bytes.Le(0x030405, 4)
	text(t, "Le", s, e, "\x05\x04\x03\x00", api.OK)
}

func TestEdgesOfEnds(t *testing.T) {
	widths := []int{math.MinInt, -1 << 61, -8, -1, 0, 1, 2, 3, 4, 5, 6, 7, 8, 9, 64, 1 << 61, math.MaxInt}
	edges := []int{math.MinInt, math.MinInt + 1, -256, -1, 0, 1, math.MaxInt - 1, math.MaxInt}
	for width := 1; width < 8; width++ {
		end := 1 << (8 * width)
		edges = append(edges, end-1, end, end+1, -end)
	}
	for _, width := range widths {
		for _, n := range edges {
			write(t, n, width)
		}
	}
}

func TestEndsOfManyNumbers(t *testing.T) {
	r := numbers(21)
	for range 20000 {
		write(t, r.sized(), r.below(12)-1)
	}
	for n := range 70000 {
		write(t, n, 2)
	}
}

func TestExamplesOfReading(t *testing.T) {
	for _, c := range []struct {
		s      string
		le, be int
	}{
		{"", 0, 0},
		{"\x00", 0, 0},
		{"\xff", 255, 255},
		{"\x02\x01", 258, 513},
		{"\x00\x00\x01", 65536, 1},
		{"\xff\xff\xff\xff\xff\xff\xff\x7f", math.MaxInt, -1},
		{"\x7f\xff\xff\xff\xff\xff\xff\xff", -1, math.MaxInt},
		{"\x00\x00\x00\x00\x00\x00\x00\x80", -1, 128},
		{"\x80\x00\x00\x00\x00\x00\x00\x00", 128, -1},
		{"\xff\xff\xff\xff\xff\xff\xff\xff", -1, -1},
		{"\x00\x00\x00\x00\x00\x00\x00\x00", 0, 0},
		{"\x00\x00\x00\x00\x00\x00\x00\x00\x00", -1, -1},
		{"123456789", -1, -1},
		{"\x00\x00\x00\x00\x00\x00\x00\x00\x00\x00\x00\x00\x00\x00\x00\x00\x01", -1, -1},
	} {
		if le, be := bytes.FromLe(c.s), bytes.FromBe(c.s); le != c.le || be != c.be {
			t.Errorf("% x: %d %d, not %d %d", c.s, le, be, c.le, c.be)
		}
	}
}

func TestReadingOfManyTexts(t *testing.T) {
	r := numbers(22)
	for range 20000 {
		read(t, r.text(r.below(12)))
	}
	for first := range 256 {
		read(t, string([]byte{byte(first)}))
		for last := range 256 {
			read(t, string([]byte{byte(first), byte(last)}))
			read(t, string([]byte{byte(first), 0, 0, 255, 0, 1, 0, byte(last)}))
		}
	}
}
