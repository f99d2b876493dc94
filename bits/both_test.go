package bits_test

import (
	"math"
	"strings"
	"testing"

	"lacquer/api"
	"lacquer/bits"
)

// Promise 1.3.

func TestRiceLength(t *testing.T) {
	for k := 0; k <= 30; k++ {
		for _, n := range []int{0, -1, 1, 1000, -1000, 1<<(k+9) + 1, -1 << (k + 8), 1<<(k+23) - 1} {
			w := bits.New()
			same(t, "Rice", w.Rice(n, k), api.OK)
			u := foldedBig(n)
			if want := int(u.Rsh(u, uint(k)).Int64()) + 1 + k; w.Len() != want {
				t.Fatalf("Rice(%d, %d) has %d bits, not %d", n, k, w.Len(), want)
			}
		}
	}
}

func TestEdgesComeBack(t *testing.T) {
	w := bits.New()
	w.Put(0, 0)
	w.Put(1, 1)
	w.Put(math.MaxUint64, 64)
	w.Signed(math.MinInt, 64)
	w.Signed(math.MaxInt, 64)
	w.Signed(-1, 1)
	w.Unary(most)
	w.Rice(-1<<23, 0)
	w.Align()
	w.Rice(1<<53, 30)
	r := bits.Of(w.Bytes())
	get(t, r, 0, 0, api.OK)
	get(t, r, 1, 1, api.OK)
	get(t, r, 64, math.MaxUint64, api.OK)
	signed(t, r, 64, math.MinInt, api.OK)
	signed(t, r, 64, math.MaxInt, api.OK)
	signed(t, r, 1, -1, api.OK)
	unary(t, r, most, api.OK)
	rice(t, r, 0, -1<<23, api.OK)
	align(t, r, true)
	rice(t, r, 30, 1<<53, api.OK)
	if r.At() != w.Len() {
		t.Fatalf("%d bits got of %d", r.At(), w.Len())
	}
}

// step is one call of a writer: what it was given and what it must come to.
type step struct {
	kind, n, width int
	code           string
	may            bool
}

// stepOf makes up a call, a wrong one now and then.
func stepOf(r *numbers, written int) step {
	s := step{kind: r.below(5), may: true}
	switch s.kind {
	case 0:
		s.width = r.below(69) - 2
		s.n = int(r.next() >> r.below(64))
		s.may = s.width >= 0 && s.width <= 64 && uint64(s.n)>>s.width == 0
	case 1:
		s.width = r.below(69) - 2
		s.n = int(r.next()) >> r.below(64)
		s.may = s.width > 0 && s.width <= 64 && (s.n>>(s.width-1) == 0 || s.n>>(s.width-1) == -1)
	case 2:
		s.n = r.below(100) - 3
		s.may = s.n >= 0
	case 3:
		s.width = r.below(35) - 2
		s.n = int(r.next()) >> r.below(64)
		if s.may = s.width >= 0 && s.width <= 30; s.may {
			s.n >>= max(0, 54-s.width)
		}
		s.n ^= -int(r.next() & 1)
	}
	if s.may {
		s.code = codeOf(s, written)
	}
	return s
}

func codeOf(s step, written int) string {
	switch s.kind {
	case 0, 1:
		return digits(uint64(s.n), s.width)
	case 2:
		return strings.Repeat("0", s.n) + "1"
	case 3:
		code, _ := riceDigits(s.n, s.width)
		return code
	}
	return strings.Repeat("0", -written&7)
}

func write(w *bits.Writer, s step) api.Errno {
	switch s.kind {
	case 0:
		return w.Put(uint64(s.n), s.width)
	case 1:
		return w.Signed(s.n, s.width)
	case 2:
		return w.Unary(s.n)
	case 3:
		return w.Rice(s.n, s.width)
	}
	w.Align()
	return api.OK
}

func TestRowsOfCallsComeBack(t *testing.T) {
	chance := numbers(1)
	for range 300 {
		w, want, steps := bits.New(), "", []step{}
		for range 40 {
			s := stepOf(&chance, len(want))
			errno := api.OK
			if !s.may {
				errno = api.ErrWidth
			}
			if got := write(w, s); got != errno {
				t.Fatalf("%+v: error %d, not %d", s, got, errno)
			}
			want += s.code
			if w.Len() != len(want) {
				t.Fatalf("%+v: Len %d, not %d", s, w.Len(), len(want))
			}
			if s.may {
				steps = append(steps, s)
			}
		}
		hold(t, w, want)
		readBack(t, w.Bytes(), steps)
	}
}

func readBack(t *testing.T, text string, steps []step) {
	t.Helper()
	r, at := bits.Of(text), 0
	for _, s := range steps {
		switch s.kind {
		case 0:
			get(t, r, s.width, uint64(s.n), api.OK)
		case 1:
			signed(t, r, s.width, s.n, api.OK)
		case 2:
			unary(t, r, s.n, api.OK)
		case 3:
			rice(t, r, s.width, s.n, api.OK)
		case 4:
			align(t, r, true)
		}
		at += len(s.code)
		stand(t, r, at, 8*len(text)-at)
	}
}

// Whatever text and whatever calls: a reader never panics, passes over nothing beside an error, and answers what the digits say.
func FuzzReader(f *testing.F) {
	f.Add("\xa8\x00\x01\xff\x80", "\x03\x45\x81\xc2\x00\xff")
	f.Add(strings.Repeat("\x00\x10", 30), strings.Repeat("\x80\xc3\x0b\x7f\x41", 9))
	f.Add("", "\x00\x40\x80\xc0")
	f.Fuzz(func(t *testing.T, text, calls string) {
		r, d := bits.Of(text), digitsOf(text)
		for i := range len(calls) {
			at := r.At()
			passed := readOne(t, r, d[at:], int(calls[i]>>6), int(calls[i]&63)*70/63-2)
			stand(t, r, at+passed, len(d)-at-passed)
		}
	})
}

// readOne makes one call, holds its answer against the digits ahead, and tells how many it must have passed.
func readOne(t *testing.T, r *bits.Reader, ahead string, kind, width int) int {
	zeros := strings.IndexByte(ahead, '1')
	switch kind {
	case 0:
		if width < 0 || width > 64 {
			get(t, r, width, 0, api.ErrWidth)
		} else if width > len(ahead) {
			get(t, r, width, 0, api.ErrEnd)
		} else {
			get(t, r, width, number(ahead[:width]), api.OK)
			return width
		}
	case 1:
		if width < 1 || width > 64 {
			signed(t, r, width, 0, api.ErrWidth)
		} else if width > len(ahead) {
			signed(t, r, width, 0, api.ErrEnd)
		} else {
			signed(t, r, width, int(number(strings.Repeat(ahead[:1], 64-width)+ahead[:width])), api.OK)
			return width
		}
	case 2:
		if zeros < 0 && len(ahead) > most || zeros > most {
			unary(t, r, 0, api.ErrWidth)
		} else if zeros < 0 {
			unary(t, r, 0, api.ErrEnd)
		} else {
			unary(t, r, zeros, api.OK)
			return zeros + 1
		}
	case 3:
		return readRice(t, r, ahead, zeros, width)
	}
	return 0
}

func readRice(t *testing.T, r *bits.Reader, ahead string, zeros, k int) int {
	if k < 0 || k > 30 || zeros < 0 && len(ahead) > most || zeros > most {
		rice(t, r, k, 0, api.ErrWidth)
		return 0
	}
	if zeros < 0 || zeros+1+k > len(ahead) {
		rice(t, r, k, 0, api.ErrEnd)
		return 0
	}
	u := int(uint64(zeros)<<k + number(ahead[zeros+1:zeros+1+k]))
	if u%2 == 0 {
		rice(t, r, k, u/2, api.OK)
	} else {
		rice(t, r, k, -(u+1)/2, api.OK)
	}
	return zeros + 1 + k
}

// number is what binary digits say.
func number(d string) uint64 {
	var n uint64
	for i := range len(d) {
		n = n<<1 + uint64(d[i]-'0')
	}
	return n
}
