package bytes_test

import (
	"strings"
	"testing"

	"lacquer/api"
	"lacquer/bytes"
)

// Promise 2.4.

func TestEndsComeBack(t *testing.T) {
	r := numbers(26)
	for range 20000 {
		width := 1 + r.below(8)
		n := int(r.next() >> max(1, 64-8*width) >> r.below(8*width))
		le, e := bytes.Le(n, width)
		if e != api.OK || len(le) != width || bytes.FromLe(le) != n {
			t.Fatalf("Le(%d, %d): % x %d %d", n, width, le, e, bytes.FromLe(le))
		}
		be, e := bytes.Be(n, width)
		if e != api.OK || len(be) != width || bytes.FromBe(be) != n {
			t.Fatalf("Be(%d, %d): % x %d %d", n, width, be, e, bytes.FromBe(be))
		}
	}
}

func TestCodedComesBack(t *testing.T) {
	r := numbers(27)
	for range 50000 {
		n := int(r.next() >> 28 >> r.below(36))
		s, e := bytes.Coded(n)
		if e != api.OK {
			t.Fatalf("Coded(%d): %d", n, e)
		}
		uncode(t, s, n, len(s), api.OK)
		// What stands behind a coded number plays no part.
		uncode(t, s+r.text(r.below(4)), n, len(s), api.OK)
	}
}

func TestCodedInARow(t *testing.T) {
	r := numbers(28)
	var row []int
	var s strings.Builder
	for range 2000 {
		n := int(r.next() >> 28 >> r.below(36))
		code, _ := bytes.Coded(n)
		row = append(row, n)
		s.WriteString(code)
	}
	rest := s.String()
	for i, n := range row {
		got, count, e := bytes.Uncoded(rest)
		if got != n || e != api.OK {
			t.Fatalf("%d: %d %d, not %d", i, got, e, n)
		}
		rest = rest[count:]
	}
	if rest != "" {
		t.Fatalf("%d bytes left", len(rest))
	}
}

func TestNoCodedBeginsAnother(t *testing.T) {
	var row []string
	add := func(n int) {
		if s, e := bytes.Coded(n); e == api.OK {
			row = append(row, s)
		}
	}
	for n := range 300 {
		add(n)
	}
	for _, limit := range limits() {
		for n := limit - 5; n < limit+5; n++ {
			if n >= 300 {
				add(n)
			}
		}
	}
	for i, a := range row {
		for j, b := range row {
			if i != j && strings.HasPrefix(b, a) {
				t.Fatalf("% x begins % x", a, b)
			}
		}
	}
}

func TestBeKeepsTheOrder(t *testing.T) {
	r := numbers(29)
	for range 50000 {
		width := 1 + r.below(8)
		n := int(r.next() >> max(1, 64-8*width))
		m := n ^ 1<<r.below(min(63, 8*width))
		a, _ := bytes.Be(n, width)
		b, _ := bytes.Be(m, width)
		if (n < m) != (a < b) || len(a) != width || len(b) != width {
			t.Fatalf("Be(%d, %d): % x; Be(%d, %d): % x", n, width, a, m, width, b)
		}
	}
}
