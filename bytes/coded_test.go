package bytes_test

import (
	"fmt"
	"math"
	"strings"
	"testing"

	"lacquer/api"
	"lacquer/bytes"
)

// Promise 2.2.

// code fails, unless Coded of n answers what the model says.
func code(t *testing.T, n int) {
	t.Helper()
	want, wanted := "", api.ErrWidth
	if n >= 0 && n < 1<<36 {
		want, wanted = codedModel(n, codedCount(n)), api.OK
	}
	s, e := bytes.Coded(n)
	text(t, fmt.Sprintf("Coded(%d)", n), s, e, want, wanted)
}

// uncode fails, unless Uncoded of s answers the wanted things.
func uncode(t *testing.T, s string, n, count int, errno api.Errno) {
	t.Helper()
	if a, b, e := bytes.Uncoded(s); a != n || b != count || e != errno {
		t.Fatalf("Uncoded(% x): %d %d %d, not %d %d %d", s, a, b, e, n, count, errno)
	}
}

// uncodeModel fails, unless Uncoded of s answers what the model says.
func uncodeModel(t *testing.T, s string) {
	t.Helper()
	n, count, errno := uncodedModel(s)
	uncode(t, s, n, count, errno)
}

func TestExamplesOfCoded(t *testing.T) {
	for _, c := range []struct {
		n int
		s string
	}{
		{0, "\x00"},
		{127, "\x7f"},
		{128, "\xc2\x80"},
		{1<<11 - 1, "\xdf\xbf"},
		{1 << 11, "\xe0\xa0\x80"},
		{1<<16 - 1, "\xef\xbf\xbf"},
		{1 << 16, "\xf0\x90\x80\x80"},
		{1<<21 - 1, "\xf7\xbf\xbf\xbf"},
		{1 << 21, "\xf8\x88\x80\x80\x80"},
		{1<<26 - 1, "\xfb\xbf\xbf\xbf\xbf"},
		{1 << 26, "\xfc\x84\x80\x80\x80\x80"},
		{1<<31 - 1, "\xfd\xbf\xbf\xbf\xbf\xbf"},
		{1 << 31, "\xfe\x82\x80\x80\x80\x80\x80"},
		{1<<36 - 1, "\xfe\xbf\xbf\xbf\xbf\xbf\xbf"},
	} {
		s, e := bytes.Coded(c.n)
		text(t, "Coded", s, e, c.s, api.OK)
		uncode(t, c.s, c.n, len(c.s), api.OK)
	}
}

func TestCodedPastItsEnds(t *testing.T) {
	for _, n := range []int{-1, -128, math.MinInt, 1 << 36, 1<<36 + 1, 1 << 41, 1 << 62, math.MaxInt} {
		s, e := bytes.Coded(n)
		text(t, fmt.Sprintf("Coded(%d)", n), s, e, "", api.ErrWidth)
	}
}

func TestCodedOfManyNumbers(t *testing.T) {
	for n := range 1 << 17 {
		code(t, n)
	}
	for _, limit := range limits() {
		for n := limit - 70; n < limit+70; n++ {
			code(t, n)
		}
	}
	r := numbers(23)
	for range 50000 {
		code(t, r.sized())
	}
}

func TestExamplesOfUncoded(t *testing.T) {
	uncode(t, "\xc0\x80", 0, 0, api.ErrMalformed)
	uncode(t, "\xc2", 0, 0, api.ErrEnd)
	uncode(t, "\xc2\x00", 0, 0, api.ErrMalformed)
}

func TestUncodedOfNothing(t *testing.T) {
	uncode(t, "", 0, 0, api.ErrEnd)
}

func TestUncodedByItsFirstByte(t *testing.T) {
	for first := range 256 {
		alone := string([]byte{byte(first)})
		switch {
		case first < 128:
			uncode(t, alone, first, 1, api.OK)
			uncode(t, alone+"\xff\x80", first, 1, api.OK)
		case first < 192 || first == 255:
			uncode(t, alone, 0, 0, api.ErrMalformed)
			uncode(t, alone+strings.Repeat("\xbf", 9), 0, 0, api.ErrMalformed)
		default:
			uncode(t, alone, 0, 0, api.ErrEnd)
			uncode(t, alone+"\x7f", 0, 0, api.ErrMalformed)
			uncode(t, alone+"\xc0", 0, 0, api.ErrMalformed)
		}
		for second := range 256 {
			uncodeModel(t, alone+string([]byte{byte(second)}))
			uncodeModel(t, alone+string([]byte{byte(second)})+"\x80\xbf\x85\x90\xa0\x81")
		}
	}
}

func TestUncodedOfWhatIsCutOrSpoilt(t *testing.T) {
	for _, n := range []int{128, 1 << 11, 1<<16 - 1, 1 << 16, 1 << 21, 1 << 26, 1 << 31, 1<<36 - 1} {
		whole := codedModel(n, codedCount(n))
		for i := 1; i < len(whole); i++ {
			uncode(t, whole[:i], 0, 0, api.ErrEnd)
			for _, wrong := range []string{"\x00", "\x7f", "\xc0", "\xff"} {
				// The byte that is wrong goes ahead of an end behind it.
				uncode(t, whole[:i]+wrong, 0, 0, api.ErrMalformed)
				uncode(t, whole[:i]+wrong+whole[i+1:], 0, 0, api.ErrMalformed)
			}
		}
	}
}

func TestUncodedOfLongerThanNeedBe(t *testing.T) {
	ends := limits()
	for count := 2; count <= 7; count++ {
		end := ends[count-2]
		for _, n := range []int{0, 1, end / 2, end - 1} {
			long := codedModel(n, count)
			uncode(t, long, 0, 0, api.ErrMalformed)
			uncode(t, long+"\x80", 0, 0, api.ErrMalformed)
			// That it is cut off is seen ahead of that it is too long.
			uncode(t, long[:count-1], 0, 0, api.ErrEnd)
		}
		uncode(t, codedModel(end, count), end, count, api.OK)
	}
}

func TestUncodedOfManyTexts(t *testing.T) {
	r := numbers(24)
	for range 200000 {
		s := []byte(r.text(r.below(10)))
		if len(s) > 0 {
			s[0] |= 0xc0
		}
		for i := range s[min(1, len(s)):] {
			if r.below(12) > 0 {
				s[i+1] = s[i+1]&0x3f | 0x80
			}
		}
		uncodeModel(t, string(s))
	}
}

func FuzzUncoded(f *testing.F) {
	for _, s := range []string{"", "a", "\xc2\x80", "\xfe\xbf\xbf\xbf\xbf\xbf\xbf", "\xff", "\xe0\x80\x80"} {
		f.Add(s)
	}
	f.Fuzz(func(t *testing.T, s string) { uncodeModel(t, s) })
}
