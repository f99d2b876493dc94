package measure_test

import (
	mathbits "math/bits"
	"slices"

	"lacquer/api"
)

// numbers is a fixed row of numbers that look like chance (SplitMix64).
type numbers uint64

func (r *numbers) next() uint64 {
	*r += 0x9e3779b97f4a7c15
	x := uint64(*r)
	x = (x ^ x>>30) * 0xbf58476d1ce4e5b9
	x = (x ^ x>>27) * 0x94d049bb133111eb
	return x ^ x>>31
}

func (r *numbers) below(n int) int { return int(r.next() % uint64(n)) }

// signed is a number of up to so many bits, small ones as often as great ones.
func (r *numbers) signed(width int) int {
	if width == 0 {
		return 0
	}
	return int(r.next()) >> (64 - 1 - r.below(width))
}

// plane is samples of this width: all the same, with wasted bits, small, or any.
func (r *numbers) plane(size, width int) []int {
	wide, wasted := width, 0
	switch r.below(4) {
	case 0:
		return slices.Repeat([]int{r.signed(width)}, size)
	case 1:
		wasted = r.below(width)
	case 2:
		wide = 1 + r.below(width)
	}
	l := make([]int, size)
	for i := range l {
		l[i] = r.signed(wide-min(wasted, wide)) << wasted
		if r.below(30) == 0 {
			l[i] = -1 << (width - 1)
		}
	}
	return l
}

// sub is one that l goes with.
func (r *numbers) sub(l []int) api.Sub {
	wasted := 0
	for wasted < 3 && !slices.ContainsFunc(l, func(n int) bool { return n&(1<<(wasted+1)-1) != 0 }) {
		wasted++
	}
	s := api.Sub{Kind: 1 + r.below(3), Wasted: r.below(wasted + 1)}
	if len(slices.Compact(slices.Clone(l))) == 1 && r.below(2) == 0 {
		s.Kind = api.SubConstant
	}
	switch s.Kind {
	case api.SubFixed:
		s.Order = r.below(min(len(l), 4) + 1)
	case api.SubLpc:
		s.Order = 1 + r.below(min(len(l), 32))
		s.Precision, s.Shift = 1+r.below(8), r.below(16)
		for range s.Order {
			s.Coefs = append(s.Coefs, r.signed(s.Precision))
		}
	default:
		return s
	}
	s.Rice = r.rice(rest(s, l), len(l), s.Order)
	return s
}

// rest is what the Sub's predictor leaves over.
func rest(s api.Sub, l []int) []int {
	coefs := s.Coefs
	if s.Kind == api.SubFixed {
		coefs = [][]int{{}, {1}, {2, -1}, {3, -3, 1}, {4, -6, 4, -1}}[s.Order]
	}
	var more []int
	for i := s.Order; i < len(l); i++ {
		sum := 0
		for j, c := range coefs {
			sum += c * (l[i-1-j] >> s.Wasted)
		}
		more = append(more, l[i]>>s.Wasted-sum>>s.Shift)
	}
	return more
}

// rice is a Rice that takes l.
func (r *numbers) rice(l []int, block, order int) api.Rice {
	q := api.Rice{Method: 1}
	for q.Order < 3 && block%(2<<q.Order) == 0 && block/(2<<q.Order) >= order && r.below(3) > 0 {
		q.Order++
	}
	size := block >> q.Order
	for i := range 1 << q.Order {
		wide := 0
		for _, n := range l[max(i*size-order, 0) : (i+1)*size-order] {
			wide = max(wide, mathbits.Len(uint(n^n>>63)))
		}
		k, e := min(max(wide-r.below(4), 0), 30), -1
		if wide < 31 && r.below(3) == 0 {
			k, e = 0, wide+1
		}
		if e == 1 && onlyNoughts(l) {
			e = 0
		}
		q.Params, q.Escapes = append(q.Params, k), append(q.Escapes, e)
	}
	if slices.Max(q.Params) <= 14 {
		q.Method = r.below(2)
	}
	return q
}

func onlyNoughts(l []int) bool {
	return !slices.ContainsFunc(l, func(n int) bool { return n != 0 })
}

// stereo is the channels that a mode makes of two planes.
func stereo(mode int, planes [][]int) [][]int {
	if mode == api.ModeAlone {
		return planes
	}
	l := [][]int{{}, {}}
	for i, a := range planes[0] {
		b := planes[1][i]
		pair := [][2]int{{}, {a, a - b}, {a - b, b}, {(a + b - (a+b)&1) / 2, a - b}}[mode]
		l[0], l[1] = append(l[0], pair[0]), append(l[1], pair[1])
	}
	return l
}

// frame is one of these samples.
func (r *numbers) frame(i api.StreamInfo, variable bool, number int, planes [][]int) api.Frame {
	f := api.Frame{Variable: variable, Number: number, Size: len(planes[0]), SizeCode: 7}
	if f.Size <= 256 && r.below(2) == 0 {
		f.SizeCode = 6
	}
	if i.Rate <= 65535 && r.below(2) == 0 {
		f.RateCode = 13
	}
	if i.Channels == 2 {
		f.Mode = r.below(4)
	}
	for _, l := range stereo(f.Mode, planes) {
		f.Subs = append(f.Subs, r.sub(l))
	}
	return f
}
