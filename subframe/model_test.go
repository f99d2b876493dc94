package subframe_test

import (
	"fmt"
	mathbits "math/bits"
	"slices"
	"strings"
	"testing"

	"lacquer/api"
	"lacquer/bits"
	"lacquer/rice"
	"lacquer/subframe"
)

// The tests hold the package against the chapter's words spelt out on texts of digits '0' and '1'. How residuals are coded is layer 8's, whose tests are its own.

// digits is the width lowest bits of n.
func digits(n, width int) string {
	d := make([]byte, width)
	for i := range d {
		d[width-1-i] = '0' + byte(n&1)
		n >>= 1
	}
	return string(d)
}

// packed is digits as a text, with bits 0 up to a whole byte.
func packed(d string) string {
	s := make([]byte, (len(d)+7)/8)
	for i := range len(d) {
		s[i/8] |= (d[i] - '0') << (7 - i%8)
	}
	return string(s)
}

// digitsOf is the bits of a text.
func digitsOf(s string) string {
	var d strings.Builder
	for i := range len(s) {
		d.WriteString(digits(int(s[i]), 8))
	}
	return d.String()
}

// power is 2^n.
func power(n int) int {
	p := 1
	for range n {
		p *= 2
	}
	return p
}

// within says whether n is from -2^(width - 1) to 2^(width - 1) - 1.
func within(n, width int) bool {
	return n >= -power(width-1) && n <= power(width-1)-1
}

// mayBe is the chapter's 'A Sub may be'.
func mayBe(s api.Sub, block, width int) bool {
	if block < 1 || block > 65535 || width < 1 || width > 33 || s.Wasted < 0 || s.Wasted > width-1 {
		return false
	}
	plainRice := s.Rice.Method == 0 && s.Rice.Order == 0 && len(s.Rice.Params) == 0 && len(s.Rice.Escapes) == 0
	plainCoefs := s.Precision == 0 && s.Shift == 0 && len(s.Coefs) == 0
	if s.Kind == 0 || s.Kind == 1 {
		return s.Order == 0 && plainCoefs && plainRice
	}
	if s.Order > block || rice.Check(s.Rice, block, s.Order) != api.OK {
		return false
	}
	if s.Kind == 2 {
		return s.Order >= 0 && s.Order <= 4 && plainCoefs
	}
	if s.Kind != 3 || s.Order < 1 || s.Order > 32 || s.Precision < 1 || s.Precision > 15 || s.Shift < 0 || s.Shift > 15 || len(s.Coefs) != s.Order {
		return false
	}
	for _, c := range s.Coefs {
		if !within(c, s.Precision) {
			return false
		}
	}
	return true
}

// foretellings are what the fixed predictors make of the last numbers.
var foretellings = [][]int{{}, {1}, {2, -1}, {3, -3, 1}, {4, -6, 4, -1}}

// foretold is what the Sub's predictor says of the number behind past.
func foretold(s api.Sub, past []int) int {
	coefs := s.Coefs
	if s.Kind == 2 {
		coefs = foretellings[s.Order]
	}
	sum := 0
	for j, c := range coefs {
		sum += c * past[len(past)-1-j]
	}
	down := sum / power(s.Shift)
	if down*power(s.Shift) > sum {
		down--
	}
	return down
}

// rest is what the Sub's predictor leaves over of divided samples.
func rest(s api.Sub, l []int) []int {
	var r []int
	for i := s.Order; i < len(l); i++ {
		r = append(r, l[i]-foretold(s, l[:i]))
	}
	return r
}

// headDigits is what stands ahead of the samples.
func headDigits(s api.Sub) string {
	code := []int{0, 1, 8 + s.Order, 31 + s.Order}[s.Kind]
	d := "0" + digits(code, 6)
	if s.Wasted == 0 {
		return d + "0"
	}
	return d + "1" + strings.Repeat("0", s.Wasted-1) + "1"
}

// each is the digits of each number.
func each(l []int, width int) string {
	var d strings.Builder
	for _, n := range l {
		d.WriteString(digits(n, width))
	}
	return d.String()
}

// riceText is the digits of residuals; false, if rice.Encode does not take them.
func riceText(r api.Rice, block, order int, l []int) (string, bool) {
	w := bits.New()
	if rice.Encode(w, r, block, order, l) != api.OK {
		return "", false
	}
	return digitsOf(w.Bytes())[:w.Len()], true
}

// encodeModel is the bits that Encode writes.
func encodeModel(s api.Sub, width int, l []int) (string, api.Errno) {
	if !mayBe(s, len(l), width) {
		return "", api.ErrRecipe
	}
	var less []int
	for _, n := range l {
		if !within(n, width) || n%power(s.Wasted) != 0 || s.Kind == 0 && n != l[0] {
			return "", api.ErrRecipe
		}
		less = append(less, n/power(s.Wasted))
	}
	d, v := headDigits(s), width-s.Wasted
	if s.Kind == 0 {
		return d + digits(less[0], v), api.OK
	}
	if s.Kind == 1 {
		return d + each(less, v), api.OK
	}
	d += each(less[:s.Order], v)
	if s.Kind == 3 {
		d += digits(s.Precision-1, 4) + digits(s.Shift, 5) + each(s.Coefs, s.Precision)
	}
	tail, ok := riceText(s.Rice, len(l), s.Order, rest(s, less))
	if !ok {
		return "", api.ErrRecipe
	}
	return d + tail, api.OK
}

// cursor goes through digits; short, if they ended.
type cursor struct {
	d     string
	at    int
	short bool
}

func (c *cursor) get(width int) int {
	if c.short = c.short || c.at+width > len(c.d); c.short {
		return 0
	}
	n := 0
	for range width {
		n = 2*n + int(c.d[c.at]-'0')
		c.at++
	}
	return n
}

func (c *cursor) signed(width int) int {
	n := c.get(width)
	if n >= power(width-1) {
		n -= power(width)
	}
	return n
}

// each is so many numbers, as far as the digits go.
func (c *cursor) each(count, width int) []int {
	var l []int
	for range count {
		if n := c.signed(width); !c.short {
			l = append(l, n)
		}
	}
	return l
}

// kindOf is what the type says; false, if it is none for this block.
func kindOf(code, block int) (api.Sub, bool) {
	switch {
	case code <= 1:
		return api.Sub{Kind: code}, true
	case code >= 8 && code <= 12:
		return api.Sub{Kind: 2, Order: code - 8}, code-8 <= block
	case code >= 32:
		return api.Sub{Kind: 3, Order: code - 31}, code-31 <= block
	}
	return api.Sub{}, false
}

// decodeModel is what Decode tells of these digits, a multiple of 8, from a place on, and how many of them it reads.
func decodeModel(d string, from, block, width int) ([]int, api.Sub, int, api.Errno) {
	bad := func() ([]int, api.Sub, int, api.Errno) { return nil, api.Sub{}, 0, api.ErrMalformed }
	c := &cursor{d: d, at: from}
	first := c.get(1)
	s, ok := kindOf(c.get(6), block)
	flag := c.get(1)
	if c.short || first != 0 || !ok {
		return bad()
	}
	if flag == 1 {
		zeros := strings.IndexByte(d[c.at:], '1')
		if zeros < 0 || zeros+1 >= width {
			return bad()
		}
		c.at += zeros + 1
		s.Wasted = zeros + 1
	}
	l, ok := c.samples(&s, block, width-s.Wasted)
	if !ok || c.short {
		return bad()
	}
	for i, n := range l {
		if !within(n, width-s.Wasted) {
			return bad()
		}
		l[i] = n * power(s.Wasted)
	}
	return l, s, c.at, api.OK
}

// samples is the divided ones, up to the first that is past its bits.
func (c *cursor) samples(s *api.Sub, block, v int) ([]int, bool) {
	switch s.Kind {
	case 0:
		n := c.signed(v)
		return slices.Repeat([]int{n}, block), true
	case 1:
		return c.each(block, v), true
	}
	l := c.each(s.Order, v)
	if s.Kind == 3 {
		s.Precision, s.Shift = c.get(4)+1, c.get(5)
		if s.Precision == 16 || s.Shift >= 16 {
			return nil, false
		}
		s.Coefs = c.each(s.Order, s.Precision)
	}
	if c.short {
		return nil, false
	}
	x := readerAt(c.d, c.at)
	more, r, e := rice.Decode(x, block, s.Order)
	if e != api.OK {
		return nil, false
	}
	s.Rice, c.at = r, x.At()
	for _, n := range more {
		// Behind one that is past its bits, numbers could grow without end.
		if l = append(l, n+foretold(*s, l)); !within(l[len(l)-1], v) {
			return nil, false
		}
	}
	return l, true
}

// readerAt is a reader that has passed so many digits.
func readerAt(d string, at int) *bits.Reader {
	x := bits.Of(packed(d))
	for range at {
		x.Get(1)
	}
	return x
}

// numbers is a fixed row of numbers that look like chance (SplitMix64).
type numbers uint64

func (r *numbers) next() uint64 {
	*r += 0x9e3779b97f4a7c15
	x := uint64(*r)
	x = (x ^ x>>30) * 0xbf58476d1ce4e5b9
	x = (x ^ x>>27) * 0x94d049bb133111eb
	return x ^ x>>31
}

func (r *numbers) below(n int) int { return int(r.next() % uint64(n)) }

// signed is a number of up to so many bits, small ones as often as great ones.
func (r *numbers) signed(width int) int {
	if width == 0 {
		return 0
	}
	return int(r.next()) >> (64 - 1 - r.below(width))
}

// sample is samples and how they are coded.
type sample struct {
	sub   api.Sub
	width int
	list  []int
}

// sample makes up samples and a Sub that they go with.
func (r *numbers) sample() sample {
	return r.sampleOf(r.below(4))
}

// sampleOf makes up samples and a Sub of this Kind that they go with.
func (r *numbers) sampleOf(kind int) sample {
	s := sample{sub: api.Sub{Kind: kind}, width: 1 + r.below(33)}
	if r.below(2) == 0 {
		s.sub.Wasted = r.below(s.width)
	}
	parts := r.below(4)
	size := 1 + r.below(12)
	block := size << parts
	v := s.width - s.sub.Wasted
	r.predictor(&s.sub, size)
	less := r.samples(&s.sub, block, v)
	if kind >= 2 {
		s.sub.Rice = r.riceOf(rest(s.sub, less), block, s.sub.Order, parts)
	}
	for _, n := range less {
		s.list = append(s.list, n*power(s.sub.Wasted))
	}
	return s
}

// predictor gives the Sub an Order up to most, and what else its Kind names, but its Rice.
func (r *numbers) predictor(s *api.Sub, most int) {
	switch s.Kind {
	case 2:
		s.Order = r.below(min(most, 4) + 1)
	case 3:
		s.Order = 1 + r.below(min(most, 32))
		s.Precision, s.Shift = 1+r.below(15), r.below(16)
		for range s.Order {
			s.Coefs = append(s.Coefs, r.signed(s.Precision))
		}
	}
}

// samples is a block of divided samples, small enough that what is left over of them has at most 35 bits.
func (r *numbers) samples(s *api.Sub, block, v int) []int {
	for wide := v; ; wide-- {
		l := make([]int, block)
		for i := range l {
			l[i] = r.signed(wide)
			if r.below(8) == 0 && wide > 0 {
				l[i] = []int{-power(wide - 1), power(wide-1) - 1}[r.below(2)]
			}
		}
		if s.Kind == 0 {
			return slices.Repeat(l[:1], block)
		}
		if s.Kind == 1 || widest(rest(*s, l)) <= 35 {
			return l
		}
	}
}

// widest is how many bits the widest number has, its sign aside.
func widest(l []int) int {
	wide := 0
	for _, n := range l {
		wide = max(wide, mathbits.Len(uint(n^n>>63)))
	}
	return wide
}

// riceOf is a Rice of 2^parts partitions that takes l.
func (r *numbers) riceOf(l []int, block, order, parts int) api.Rice {
	q := api.Rice{Method: r.below(2), Order: parts}
	if widest(l) > 19 {
		q.Method = 1
	}
	size := block >> parts
	for i := range 1 << parts {
		part := l[max(i*size-order, 0) : (i+1)*size-order]
		wide := widest(part)
		least := max(wide-5, 0)
		k, e := least+r.below(15+16*q.Method-least), -1
		if wide <= 30 && r.below(3) == 0 {
			k, e = 0, wide+1+r.below(31-wide)
			if !slices.ContainsFunc(part, func(n int) bool { return n != 0 }) {
				e = r.below(2)
			}
		}
		q.Params, q.Escapes = append(q.Params, k), append(q.Escapes, e)
	}
	return q
}

// sameSub says whether two of them say the same.
func sameSub(a, b api.Sub) bool {
	alike := a.Kind == b.Kind && a.Order == b.Order && a.Wasted == b.Wasted && a.Precision == b.Precision && a.Shift == b.Shift
	return alike && slices.Equal(a.Coefs, b.Coefs) && a.Rice.Method == b.Rice.Method && a.Rice.Order == b.Rice.Order &&
		slices.Equal(a.Rice.Params, b.Rice.Params) && slices.Equal(a.Rice.Escapes, b.Rice.Escapes)
}

// short is a thing's beginning, for what a test says.
func short(a any) string {
	return fmt.Sprintf("%.120s", fmt.Sprint(a))
}

// coded is a Rice of one partition with this parameter.
func coded(k int) api.Rice {
	return api.Rice{Params: []int{k}, Escapes: []int{-1}}
}

// escaped is a Rice of one partition, each number of which has so many bits.
func escaped(e int) api.Rice {
	return api.Rice{Params: []int{0}, Escapes: []int{e}}
}

// fixed is a Sub of this Order.
func fixed(order int, r api.Rice) api.Sub {
	return api.Sub{Kind: api.SubFixed, Order: order, Rice: r}
}

// lpc is a Sub of these coefficients.
func lpc(precision, shift int, r api.Rice, coefs ...int) api.Sub {
	return api.Sub{Kind: api.SubLpc, Order: len(coefs), Precision: precision, Shift: shift, Coefs: coefs, Rice: r}
}

// wasting is the Sub with so many wasted bits.
func wasting(s api.Sub, wasted int) api.Sub {
	s.Wasted = wasted
	return s
}

// isCheck fails, unless Check answers this.
func isCheck(t *testing.T, s api.Sub, block, width int, want api.Errno) {
	t.Helper()
	if e := subframe.Check(s, block, width); e != want {
		t.Errorf("Check(%s, %d, %d): error %d, not %d", short(s), block, width, e, want)
	}
}

// isEncode fails, unless Encode answers this and writes just these digits, behind what stands in the writer already.
func isEncode(t *testing.T, s sample, want string, errno api.Errno) {
	t.Helper()
	for _, ahead := range []string{"", "1", "0000000", "10110011", "101100111100"} {
		w := bits.New()
		for _, d := range ahead {
			w.Put(uint64(d-'0'), 1)
		}
		if e := subframe.Encode(w, s.sub, s.width, s.list); e != errno {
			t.Fatalf("Encode(%s, %d, %s): error %d, not %d", short(s.sub), s.width, short(s.list), e, errno)
		}
		if w.Len() != len(ahead)+len(want) || w.Bytes() != packed(ahead+want) {
			t.Fatalf("Encode(%s, %d, %s) wrote %s, not %s", short(s.sub), s.width, short(s.list), short(digitsOf(w.Bytes())), short(ahead+want))
		}
	}
}

// isNoEncode fails, unless Encode answers ErrRecipe and writes nothing.
func isNoEncode(t *testing.T, s sample) {
	t.Helper()
	isEncode(t, s, "", api.ErrRecipe)
}

// isDecode fails, unless Decode of these digits answers this, and goes just to what is behind them.
func isDecode(t *testing.T, d string, s sample) {
	t.Helper()
	for _, ahead := range []string{"", "1", "0110011"} {
		for _, behind := range []string{"", "1", "000000000", "11111111"} {
			x := readerAt(ahead+d+behind, len(ahead))
			l, q, e := subframe.Decode(x, len(s.list), s.width)
			if e != api.OK || !slices.Equal(l, s.list) || !sameSub(q, s.sub) || x.At() != len(ahead)+len(d) {
				t.Fatalf("Decode(%s, %d, %d): %s, %s, error %d, at %d; not %s, %s, at %d", short(d), len(s.list), s.width, short(l), short(q), e, x.At(), short(s.list), short(s.sub), len(ahead)+len(d))
			}
		}
	}
}

// isNoDecode fails, unless Decode answers this error and nothing else.
func isNoDecode(t *testing.T, x *bits.Reader, block, width int, want api.Errno) {
	t.Helper()
	l, s, e := subframe.Decode(x, block, width)
	if e != want || len(l) != 0 || !sameSub(s, api.Sub{}) {
		t.Errorf("Decode(.., %d, %d): %s, %s, error %d, not %d", block, width, short(l), short(s), e, want)
	}
}

// isMalformed fails, unless Decode refuses these digits, wherever they stand and whatever is behind them.
func isMalformed(t *testing.T, d string, block, width int) {
	t.Helper()
	for _, ahead := range []string{"", "0", "1100110"} {
		for _, behind := range []string{"", "1", strings.Repeat("0", 200), strings.Repeat("1", 200), strings.Repeat("01", 100)} {
			isNoDecode(t, readerAt(ahead+d+behind, len(ahead)), block, width, api.ErrMalformed)
		}
	}
}
