package search_test

import (
	"fmt"
	"slices"
	"testing"

	"lacquer/api"
	"lacquer/bits"
	"lacquer/rice"
	"lacquer/search"
	"lacquer/subframe"
)

// The tests hold the package against the chapter's words: all Subs that it names are written by subframe.Encode, and what it wrote is counted. Best and Encode are those of layers 8 and 10, whose tests are their own; predictors, wasted bits and modes are spelt out here.

// power is 2^n.
func power(n int) int {
	p := 1
	for range n {
		p *= 2
	}
	return p
}

// within says whether n is from -2^(width - 1) to 2^(width - 1) - 1.
func within(n, width int) bool {
	return n >= -power(width-1) && n <= power(width-1)-1
}

// down is n / 2^by, downwards.
func down(n, by int) int {
	q := n / power(by)
	if q*power(by) > n {
		q--
	}
	return q
}

// predictor is one of the chapter's: coefficients of the last number, the one ahead of it, and so on.
type predictor struct {
	sub   api.Sub
	coefs []int
}

// fixed is the fixed predictor of this order.
func fixed(order int) predictor {
	weights := [][]int{{}, {1}, {2, -1}, {3, -3, 1}, {4, -6, 4, -1}}
	return predictor{api.Sub{Kind: api.SubFixed, Order: order}, weights[order]}
}

// lpc is the predictor of Precision 7 and Shift 5 with these coefficients.
func lpc(coefs ...int) predictor {
	return predictor{api.Sub{Kind: api.SubLpc, Order: len(coefs), Precision: 7, Shift: 5, Coefs: coefs}, coefs}
}

// predictorsOf are those of a level.
func predictorsOf(level int) []predictor {
	return [][]predictor{
		{fixed(0), fixed(1), fixed(2)},
		{fixed(0), fixed(1), fixed(2), fixed(3), fixed(4)},
		{fixed(0), fixed(1), fixed(2), fixed(3), fixed(4), lpc(31), lpc(60, -29), lpc(63, -31)},
	}[level]
}

// foretold is what p says of the number behind past.
func (p predictor) foretold(past []int) int {
	sum := 0
	for j, c := range p.coefs {
		sum += c * past[len(past)-1-j]
	}
	return down(sum, p.sub.Shift)
}

// rest is what p leaves over of l.
func (p predictor) rest(l []int) []int {
	var more []int
	for i := p.sub.Order; i < len(l); i++ {
		more = append(more, l[i]-p.foretold(l[:i]))
	}
	return more
}

// wastedOf is the greatest n up to 31 such that 2^n divides all; 0, if all are 0.
func wastedOf(l []int) int {
	if !slices.ContainsFunc(l, func(n int) bool { return n != 0 }) {
		return 0
	}
	n := 0
	for n < 31 && !slices.ContainsFunc(l, func(x int) bool { return x%power(n+1) != 0 }) {
		n++
	}
	return n
}

// bitsOf is how many bits subframe.Encode writes; -1, if it writes none.
func bitsOf(s api.Sub, width int, l []int) int {
	w := bits.New()
	if subframe.Encode(w, s, width, l) != api.OK {
		return -1
	}
	return w.Len()
}

// choice is a Sub and how many bits it has.
type choice struct {
	sub  api.Sub
	bits int
}

// choices are the Subs that 12.2 names, in their order. (Those whose residuals alone have more bits than all samples as they are cannot be the shortest; they are left out, for they may have millions.)
func choices(l []int, width, level int) []choice {
	w := wastedOf(l)
	var less []int
	for _, n := range l {
		less = append(less, n/power(w))
	}
	var list []choice
	add := func(s api.Sub) {
		s.Wasted = w
		list = append(list, choice{s, bitsOf(s, width, l)})
	}
	if !slices.ContainsFunc(l, func(n int) bool { return n != l[0] }) {
		add(api.Sub{Kind: api.SubConstant})
	}
	add(api.Sub{Kind: api.SubVerbatim})
	for _, p := range predictorsOf(level) {
		if p.sub.Order > len(l) {
			continue
		}
		r, n := rice.Best(len(l), p.sub.Order, p.rest(less))
		if n < 0 || n > 8+len(l)*width {
			continue
		}
		p.sub.Rice = r
		add(p.sub)
	}
	return list
}

// subModel is what Sub answers.
func subModel(l []int, width, level int) (api.Sub, int) {
	if level < 0 || level > 2 || width < 1 || width > 33 || len(l) < 1 || len(l) > 65535 {
		return api.Sub{}, -1
	}
	if slices.ContainsFunc(l, func(n int) bool { return !within(n, width) }) {
		return api.Sub{}, -1
	}
	list := choices(l, width, level)
	best := list[0]
	for _, c := range list {
		if c.bits < best.bits {
			best = c
		}
	}
	return best.sub, best.bits
}

// coded is the channels that a mode makes of two planes.
func coded(mode int, planes [][]int) [][]int {
	if mode == api.ModeAlone {
		return planes
	}
	l := [][]int{{}, {}}
	for i, a := range planes[0] {
		b := planes[1][i]
		pair := [][2]int{{}, {a, a - b}, {a - b, b}, {down(a+b, 1), a - b}}[mode]
		l[0], l[1] = append(l[0], pair[0]), append(l[1], pair[1])
	}
	return l
}

// widthOf is a subframe's width.
func widthOf(mode, channel, width int) int {
	if mode == api.ModeRight && channel == 0 || (mode == api.ModeLeft || mode == api.ModeMid) && channel == 1 {
		return width + 1
	}
	return width
}

// The chapter's codes.
var (
	sizeCodes  = map[int]int{192: 1, 576: 2, 1152: 3, 2304: 4, 4608: 5, 256: 8, 512: 9, 1024: 10, 2048: 11, 4096: 12}
	rateCodes  = map[int]int{88200: 1, 176400: 2, 192000: 3, 8000: 4, 16000: 5, 22050: 6, 24000: 7, 32000: 8, 44100: 9, 48000: 10, 96000: 11}
	widthCodes = map[int]int{8: 1, 12: 2, 16: 4, 20: 5, 24: 6}
)

// sizeCodeOf is the SizeCode of a size.
func sizeCodeOf(size int) int {
	if code, ok := sizeCodes[size]; ok {
		return code
	}
	if size <= 256 {
		return 6
	}
	return 7
}

// rateCodeOf is the RateCode of a rate.
func rateCodeOf(rate int) int {
	if code, ok := rateCodes[rate]; ok {
		return code
	}
	switch {
	case rate%1000 == 0 && rate <= 255000:
		return 12
	case rate <= 65535:
		return 13
	case rate%10 == 0 && rate <= 655350:
		return 14
	}
	return 0
}

// modeModel is the Subs of a mode, and how many bits they have together.
func modeModel(mode int, planes [][]int, width, level int) ([]api.Sub, int) {
	var subs []api.Sub
	sum := 0
	for c, l := range coded(mode, planes) {
		s, n := subModel(l, widthOf(mode, c, width), level)
		subs, sum = append(subs, s), sum+n
	}
	return subs, sum
}

// isRight says whether what is not the level may be.
func isRight(s sample) bool {
	i := s.info
	if i.Channels < 1 || i.Channels > 8 || len(s.planes) != i.Channels || i.Width < 4 || i.Width > 24 || i.Rate < 1 || i.Rate > 655350 {
		return false
	}
	for _, l := range s.planes {
		if len(l) != len(s.planes[0]) || len(l) < 1 || len(l) > 4608 || slices.ContainsFunc(l, func(n int) bool { return !within(n, i.Width) }) {
			return false
		}
	}
	return s.number >= 0 && s.number <= power(31)-1
}

// frameModel is what Frame answers.
func frameModel(s sample, level int) (api.Frame, api.Errno) {
	if level < 0 || level > 2 {
		return api.Frame{}, api.ErrArg
	}
	if !isRight(s) {
		return api.Frame{}, api.ErrRecipe
	}
	f := api.Frame{Number: s.number, Size: len(s.planes[0])}
	f.SizeCode, f.RateCode, f.WidthCode = sizeCodeOf(f.Size), rateCodeOf(s.info.Rate), widthCodes[s.info.Width]
	subs, best := modeModel(api.ModeAlone, s.planes, s.info.Width, level)
	f.Subs = subs
	for mode := 1; mode < 4 && s.info.Channels == 2 && level > 0; mode++ {
		if subs, n := modeModel(mode, s.planes, s.info.Width, level); n < best {
			best, f.Mode, f.Subs = n, mode, subs
		}
	}
	return f, api.OK
}

// numbers is a fixed row of numbers that look like chance (SplitMix64).
type numbers uint64

func (r *numbers) next() uint64 {
	*r += 0x9e3779b97f4a7c15
	x := uint64(*r)
	x = (x ^ x>>30) * 0xbf58476d1ce4e5b9
	x = (x ^ x>>27) * 0x94d049bb133111eb
	return x ^ x>>31
}

func (r *numbers) below(n int) int { return int(r.next() % uint64(n)) }

// signed is a number of up to so many bits, small ones as often as great ones.
func (r *numbers) signed(width int) int {
	if width == 0 {
		return 0
	}
	return int(r.next()) >> (64 - 1 - r.below(width))
}

// any is a number of so many bits.
func (r *numbers) any(width int) int {
	return int(r.next()) >> (64 - width)
}

// foretold is count samples that p foretells, each wrong by up to most, as far as the width goes.
func (r *numbers) foretold(p predictor, count, width, most int) []int {
	var l []int
	for range p.sub.Order {
		l = append(l, r.any(width)/4)
	}
	for len(l) < count {
		l = append(l, clipped(p.foretold(l)+r.below(2*most+1)-most, width))
	}
	return l[:count]
}

// plane is count samples of this width: all the same, any, small, at the edges, foretold, with wasted bits.
func (r *numbers) plane(count, width int) []int {
	l := make([]int, count)
	switch r.below(6) {
	case 0:
		return slices.Repeat([]int{r.signed(width)}, count)
	case 1:
		wide := 1 + r.below(width)
		for i := range l {
			l[i] = r.any(wide)
		}
	case 2:
		for i := range l {
			l[i] = []int{-power(width - 1), power(width-1) - 1}[r.below(2)]
		}
	case 3:
		wasted := r.below(width)
		for i := range l {
			l[i] = r.signed(width-wasted) * power(wasted)
		}
	default:
		all := predictorsOf(2)
		most := r.below(min(power(width-1), 1+r.below(60)))
		return r.foretold(all[r.below(len(all))], count, width, most)
	}
	return l
}

// sample is what Frame is asked, its level aside.
type sample struct {
	info   api.StreamInfo
	number int
	planes [][]int
}

// sampleOf makes up samples of so many channels; where there are two, they are often alike.
func (r *numbers) sampleOf(channels, size int) sample {
	s := sample{info: r.stream(channels), number: int(r.next() >> (33 + r.below(31)))}
	for range channels {
		s.planes = append(s.planes, r.plane(size, s.info.Width))
	}
	if channels == 2 && r.below(4) > 0 {
		r.near(s.planes, s.info.Width)
	}
	return s
}

// near makes two planes alike: the second one the first and a little more, the other way round, or both of them, one more and the other less.
func (r *numbers) near(planes [][]int, width int) {
	a, b := planes[0], planes[1]
	wide, both := r.below(width), r.below(2)
	for i, n := range a {
		by := r.signed(wide)
		a[i], b[i] = clipped(n-both*by, width), clipped(n+by, width)
	}
	if r.below(2) == 0 {
		planes[0], planes[1] = b, a
	}
}

// clipped is the number of this width that n is, or is nearest to.
func clipped(n, width int) int {
	return min(max(n, -power(width-1)), power(width-1)-1)
}

// stream is one that may have frames, with a rate and a width that codes say as often as others.
func (r *numbers) stream(channels int) api.StreamInfo {
	i := stream(channels, 4+r.below(21), 1+r.below(655350))
	switch r.below(4) {
	case 0:
		i.Rate = []int{88200, 176400, 192000, 8000, 16000, 22050, 24000, 32000, 44100, 48000, 96000}[r.below(11)]
	case 1:
		i.Rate = 1000 * (1 + r.below(300))
	case 2:
		i.Rate = 10 * (1 + r.below(65535))
	}
	if r.below(2) == 0 {
		i.Width = []int{8, 12, 16, 20, 24}[r.below(5)]
	}
	return i
}

// stream is one with these.
func stream(channels, width, rate int) api.StreamInfo {
	return api.StreamInfo{Channels: channels, Width: width, Rate: rate}
}

// simple is samples of so many channels, 16 bits, 44100.
func simple(channels, size int) sample {
	s := sample{info: stream(channels, 16, 44100), number: 7}
	for c := range channels {
		l := make([]int, size)
		for i := range l {
			l[i] = (i*7919+c*104729)%65536 - 32768
		}
		s.planes = append(s.planes, l)
	}
	return s
}

// up is the numbers from 0 on.
func up(count int) []int {
	l := make([]int, count)
	for i := range l {
		l[i] = i
	}
	return l
}

// sameFrame says whether two of them say the same.
func sameFrame(a, b api.Frame) bool {
	return a.Variable == b.Variable && a.Number == b.Number && a.Size == b.Size && a.SizeCode == b.SizeCode && a.RateCode == b.RateCode &&
		a.WidthCode == b.WidthCode && a.Mode == b.Mode && slices.EqualFunc(a.Subs, b.Subs, sameSub)
}

// sameSub says whether two of them say the same.
func sameSub(a, b api.Sub) bool {
	alike := a.Kind == b.Kind && a.Order == b.Order && a.Wasted == b.Wasted && a.Precision == b.Precision && a.Shift == b.Shift
	return alike && slices.Equal(a.Coefs, b.Coefs) && a.Rice.Method == b.Rice.Method && a.Rice.Order == b.Rice.Order &&
		slices.Equal(a.Rice.Params, b.Rice.Params) && slices.Equal(a.Rice.Escapes, b.Rice.Escapes)
}

// short is a thing's beginning, for what a test says.
func short(a any) string {
	return fmt.Sprintf("%.200s", fmt.Sprint(a))
}

// isSub fails, unless Sub answers what the chapter says, which is something; it is that.
func isSub(t *testing.T, l []int, width, level int) choice {
	t.Helper()
	s, n := search.Sub(l, width, level)
	want, bits := subModel(l, width, level)
	if n < 0 || n != bits || !sameSub(s, want) {
		t.Fatalf("Sub(%s, %d, %d): %s, %d; not %s, %d", short(l), width, level, short(s), n, short(want), bits)
	}
	if told := bitsOf(s, width, l); told != n {
		t.Fatalf("Sub(%s, %d, %d): %s: %d bits, of which Encode writes %d", short(l), width, level, short(s), n, told)
	}
	return choice{s, n}
}

// isNoSub fails, unless Sub answers that there is none, and nothing else.
func isNoSub(t *testing.T, l []int, width, level int) {
	t.Helper()
	if s, n := search.Sub(l, width, level); n != -1 || !sameSub(s, api.Sub{}) {
		t.Errorf("Sub(%s, %d, %d): %s, %d", short(l), width, level, short(s), n)
	}
}

// frameOf is what Frame answers.
func frameOf(s sample, level int) (api.Frame, api.Errno) {
	return search.Frame(s.info, s.number, s.planes, level)
}

// isFrame fails, unless Frame answers what the chapter says, which is something; it is that.
func isFrame(t *testing.T, s sample, level int) api.Frame {
	t.Helper()
	f, e := frameOf(s, level)
	want, errno := frameModel(s, level)
	if e != api.OK || errno != api.OK || !sameFrame(f, want) {
		t.Fatalf("Frame(%s, %d): %s, error %d; not %s, %d", short(s), level, short(f), e, short(want), errno)
	}
	return f
}

// isNoFrame fails, unless Frame answers this error and nothing else.
func isNoFrame(t *testing.T, s sample, level int, want api.Errno) {
	t.Helper()
	if f, e := frameOf(s, level); e != want || !sameFrame(f, api.Frame{}) {
		t.Errorf("Frame(%s, %d): %s, error %d, not %d", short(s), level, short(f), e, want)
	}
}
