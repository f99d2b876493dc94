package rice_test

import (
	"fmt"
	"math/big"
	"slices"
	"strings"
	"testing"

	"lacquer/api"
	"lacquer/bits"
	"lacquer/rice"
)

// The tests hold the package against the chapter's words spelt out on texts of digits '0' and '1'.

const most = 1 << 24 // bits 0 that a Rice code may have

// digits is the width lowest bits of n.
func digits(n, width int) string {
	d := make([]byte, width)
	for i := range d {
		d[width-1-i] = '0' + byte(n&1)
		n >>= 1
	}
	return string(d)
}

// packed is digits as a text, with bits 0 up to a whole byte.
func packed(d string) string {
	s := make([]byte, (len(d)+7)/8)
	for i := range len(d) {
		s[i/8] |= (d[i] - '0') << (7 - i%8)
	}
	return string(s)
}

// digitsOf is the bits of a text.
func digitsOf(s string) string {
	var d strings.Builder
	for i := range len(s) {
		d.WriteString(digits(int(s[i]), 8))
	}
	return d.String()
}

// riceLength is how many bits the Rice code of n has, and how many of them are 0 at its beginning; false, if bits.Rice refuses it.
func riceLength(n, k int) (length, zeros int, ok bool) {
	u := new(big.Int).Lsh(big.NewInt(int64(n)), 1)
	if n < 0 {
		u.Neg(u).Sub(u, big.NewInt(1))
	}
	u.Rsh(u, uint(k))
	if u.Cmp(big.NewInt(most)) > 0 {
		return 0, 0, false
	}
	return int(u.Int64()) + 1 + k, int(u.Int64()), true
}

// riceDigits is the Rice code of n, which bits.Rice takes.
func riceDigits(n, k int) string {
	_, zeros, _ := riceLength(n, k)
	u := 2 * n
	if n < 0 {
		u = -2*n - 1
	}
	return strings.Repeat("0", zeros) + "1" + digits(u, k)
}

// sizes is how many numbers each partition has; nil, if block and order cannot be cut so.
func sizes(block, order, power int) []int {
	if power < 0 || power > 15 || block < 1 || block > 65535 || order < 0 || order > 32 {
		return nil
	}
	n := 1
	for range power {
		n *= 2
	}
	if block%n != 0 || block/n < order {
		return nil
	}
	l := slices.Repeat([]int{block / n}, n)
	l[0] -= order
	return l
}

// mayBe is the chapter's 'A Rice may be'.
func mayBe(r api.Rice, block, order int) bool {
	parts := sizes(block, order, r.Order)
	if parts == nil || r.Method != 0 && r.Method != 1 || len(r.Params) != len(parts) || len(r.Escapes) != len(parts) {
		return false
	}
	top := 14
	if r.Method == 1 {
		top = 30
	}
	for i := range parts {
		k, e := r.Params[i], r.Escapes[i]
		isCoded := e == -1 && k >= 0 && k <= top
		isEscaped := e >= 0 && e <= 31 && k == 0
		if !isCoded && !isEscaped {
			return false
		}
	}
	return true
}

// fits says whether a number goes into a partition.
func fits(n, k, e int) bool {
	if e == -1 {
		_, _, ok := riceLength(n, k)
		return ok
	}
	if e == 0 {
		return n == 0
	}
	half := 1
	for range e - 1 {
		half *= 2
	}
	return n >= -half && n <= half-1
}

// encodeModel is the bits that Encode writes.
func encodeModel(r api.Rice, block, order int, l []int) (string, api.Errno) {
	if !mayBe(r, block, order) || len(l) != block-order {
		return "", api.ErrRecipe
	}
	width := 4 + r.Method
	d := strings.Builder{}
	d.WriteString(digits(r.Method, 2) + digits(r.Order, 4))
	for i, size := range sizes(block, order, r.Order) {
		k, e := r.Params[i], r.Escapes[i]
		if e == -1 {
			d.WriteString(digits(k, width))
		} else {
			d.WriteString(strings.Repeat("1", width) + digits(e, 5))
		}
		for _, n := range l[:size] {
			if !fits(n, k, e) {
				return "", api.ErrRecipe
			}
			if e == -1 {
				d.WriteString(riceDigits(n, k))
			} else {
				d.WriteString(digits(n, e))
			}
		}
		l = l[size:]
	}
	return d.String(), api.OK
}

// decodeModel is what Decode tells of these digits, and how many of them it reads.
func decodeModel(d string, block, order int) ([]int, api.Rice, int, api.Errno) {
	at := 0
	short := false
	get := func(width int) int {
		if at+width > len(d) {
			short = true
			return 0
		}
		n := 0
		for range width {
			n = 2*n + int(d[at]-'0')
			at++
		}
		return n
	}
	bad := func() ([]int, api.Rice, int, api.Errno) { return nil, api.Rice{}, 0, api.ErrMalformed }
	r := api.Rice{Method: get(2), Order: get(4)}
	parts := sizes(block, order, r.Order)
	if short || r.Method > 1 || parts == nil {
		return bad()
	}
	l := []int{}
	for _, size := range parts {
		width := 4 + r.Method
		k, e := get(width), -1
		if k == 15+16*r.Method {
			k, e = 0, get(5)
		}
		r.Params, r.Escapes = append(r.Params, k), append(r.Escapes, e)
		for range size {
			if short {
				return bad()
			}
			if e >= 0 {
				n := get(e)
				if e > 0 && n >= 1<<(e-1) {
					n -= 1 << e
				}
				l = append(l, n)
				continue
			}
			zeros := strings.IndexByte(d[at:], '1')
			if zeros < 0 || zeros > most {
				return bad()
			}
			at += zeros + 1
			u := zeros<<k + get(k)
			if u%2 == 0 {
				l = append(l, u/2)
			} else {
				l = append(l, -(u+1)/2)
			}
		}
	}
	if short {
		return bad()
	}
	return l, r, at, api.OK
}

// numbers is a fixed row of numbers that look like chance (SplitMix64).
type numbers uint64

func (r *numbers) next() uint64 {
	*r += 0x9e3779b97f4a7c15
	x := uint64(*r)
	x = (x ^ x>>30) * 0xbf58476d1ce4e5b9
	x = (x ^ x>>27) * 0x94d049bb133111eb
	return x ^ x>>31
}

func (r *numbers) below(n int) int { return int(r.next() % uint64(n)) }

// signed is a number of up to so many bits, small ones as often as great ones.
func (r *numbers) signed(width int) int {
	if width == 0 {
		return 0
	}
	return int(r.next()) >> (64 - 1 - r.below(width))
}

// sample is residuals and how they are coded.
type sample struct {
	rice         api.Rice
	block, order int
	list         []int
}

// sample makes up residuals and a Rice that may be for them.
func (r *numbers) sample() sample {
	power := r.below(6)
	size := 1 + r.below(9)
	s := sample{block: size << power, order: r.below(min(size, 32) + 1)}
	s.rice = api.Rice{Method: r.below(2), Order: power}
	for _, count := range sizes(s.block, s.order, power) {
		k, e := r.below(15+16*s.rice.Method), -1
		width := min(k+4, 34)
		if r.below(3) == 0 {
			k, e = 0, r.below(32)
			width = e
		}
		s.rice.Params = append(s.rice.Params, k)
		s.rice.Escapes = append(s.rice.Escapes, e)
		for range count {
			s.list = append(s.list, r.signed(width))
		}
	}
	return s
}

// sameRice says whether two of them say the same.
func sameRice(a, b api.Rice) bool {
	return a.Method == b.Method && a.Order == b.Order && slices.Equal(a.Params, b.Params) && slices.Equal(a.Escapes, b.Escapes)
}

// short is a thing's beginning, for what a test says.
func short(a any) string {
	return fmt.Sprintf("%.120s", fmt.Sprint(a))
}

// coded is a Rice without escapes.
func coded(method, power int, params ...int) api.Rice {
	return api.Rice{Method: method, Order: power, Params: params, Escapes: slices.Repeat([]int{-1}, len(params))}
}

// escaped is a Rice of escapes alone.
func escaped(method, power int, escapes ...int) api.Rice {
	return api.Rice{Method: method, Order: power, Params: make([]int, len(escapes)), Escapes: escapes}
}

// isCheck fails, unless Check answers this.
func isCheck(t *testing.T, r api.Rice, block, order int, want api.Errno) {
	t.Helper()
	if e := rice.Check(r, block, order); e != want {
		t.Errorf("Check(%s, %d, %d): error %d, not %d", short(r), block, order, e, want)
	}
}

// isEncode fails, unless Encode answers this and writes just these digits, behind what stands in the writer already.
func isEncode(t *testing.T, s sample, want string, errno api.Errno) {
	t.Helper()
	for _, ahead := range []string{"", "1", "0000000", "10110011", "101100111100"} {
		w := bits.New()
		for _, d := range ahead {
			w.Put(uint64(d-'0'), 1)
		}
		if e := rice.Encode(w, s.rice, s.block, s.order, s.list); e != errno {
			t.Fatalf("Encode(%s, %d, %d, %s): error %d, not %d", short(s.rice), s.block, s.order, short(s.list), e, errno)
		}
		if w.Len() != len(ahead)+len(want) || w.Bytes() != packed(ahead+want) {
			t.Fatalf("Encode(%s, %d, %d, %s) wrote %s, not %s", short(s.rice), s.block, s.order, short(s.list), short(digitsOf(w.Bytes())), short(ahead+want))
		}
	}
}

// isDecode fails, unless Decode of these digits answers this, and goes just to what is behind them.
func isDecode(t *testing.T, d string, s sample) {
	t.Helper()
	for _, ahead := range []string{"", "1", "0110011"} {
		for _, behind := range []string{"", "1", "000000000", "11111111"} {
			x := bits.Of(packed(ahead + d + behind))
			x.Get(len(ahead))
			l, r, e := rice.Decode(x, s.block, s.order)
			if e != api.OK || !slices.Equal(l, s.list) || !sameRice(r, s.rice) || x.At() != len(ahead)+len(d) {
				t.Fatalf("Decode(%s, %d, %d): %s, %s, error %d, at %d; not %s, %s, at %d", short(d), s.block, s.order, short(l), short(r), e, x.At(), short(s.list), short(s.rice), len(ahead)+len(d))
			}
		}
	}
}

// isNoDecode fails, unless Decode answers this error and nothing else.
func isNoDecode(t *testing.T, x *bits.Reader, block, order int, want api.Errno) {
	t.Helper()
	l, r, e := rice.Decode(x, block, order)
	if e != want || len(l) != 0 || !sameRice(r, api.Rice{}) {
		t.Errorf("Decode(.., %d, %d): %s, %s, error %d, not %d", block, order, short(l), short(r), e, want)
	}
}
