package predict_test

import (
	"fmt"
	"math"
	"math/big"
	"slices"
	"testing"

	"lacquer/api"
	"lacquer/predict"
)

// The tests hold the package against the chapter's words spelt out with numbers of any size, which are cut to an int where the chapter says so.

// asInt is n modulo 2^64, as an int has it.
func asInt(n *big.Int) int {
	m := new(big.Int).And(n, new(big.Int).SetUint64(math.MaxUint64))
	return int(m.Uint64())
}

// downwards is n divided by 2^shift, downwards.
func downwards(n, shift int) int {
	d := new(big.Int).Exp(big.NewInt(2), big.NewInt(int64(shift)), nil)
	q, m := new(big.Int).QuoRem(big.NewInt(int64(n)), d, new(big.Int))
	if m.Sign() < 0 {
		q.Sub(q, big.NewInt(1))
	}
	return asInt(q)
}

// weighed is the sum of each weight times the number at its place.
func weighed(weights, l []int) int {
	sum := new(big.Int)
	for i, w := range weights {
		sum.Add(sum, new(big.Int).Mul(big.NewInt(int64(w)), big.NewInt(int64(l[i]))))
	}
	return asInt(sum)
}

// less is a - b.
func less(a, b int) int { return weighed([]int{1, -1}, []int{a, b}) }

// lastOf is the last count numbers ahead of the place i, the last one first.
func lastOf(l []int, i, count int) []int {
	back := slices.Clone(l[i-count : i])
	slices.Reverse(back)
	return back
}

// fixedModel is the chapter's Fixed.
func fixedModel(order int, l []int) ([]int, api.Errno) {
	if order < 0 || order > 4 || len(l) < order {
		return nil, api.ErrArg
	}
	words := [][]int{{}, {1}, {2, -1}, {3, -3, 1}, {4, -6, 4, -1}}
	rest := []int{}
	for i := order; i < len(l); i++ {
		rest = append(rest, less(l[i], weighed(words[order], lastOf(l, i, order))))
	}
	return rest, api.OK
}

// lpcModel is the chapter's Lpc.
func lpcModel(coefs []int, shift int, l []int) ([]int, api.Errno) {
	if len(coefs) < 1 || len(coefs) > 32 || shift < 0 || shift > 31 || len(l) < len(coefs) {
		return nil, api.ErrArg
	}
	rest := []int{}
	for i := len(coefs); i < len(l); i++ {
		sum := weighed(coefs, lastOf(l, i, len(coefs)))
		rest = append(rest, less(l[i], downwards(sum, shift)))
	}
	return rest, api.OK
}

// divides says whether 2^by divides all numbers of l.
func divides(l []int, by int) bool {
	d := 1
	for range by {
		d *= 2
	}
	for _, n := range l {
		if n%d != 0 {
			return false
		}
	}
	return true
}

// wastedModel is the chapter's Wasted.
func wastedModel(l []int) int {
	if !slices.ContainsFunc(l, func(n int) bool { return n != 0 }) {
		return 0
	}
	n := 31
	for !divides(l, n) {
		n--
	}
	return n
}

// isMode says whether mode is one of the four.
func isMode(mode int) bool {
	return mode == api.ModeAlone || mode == api.ModeLeft || mode == api.ModeRight || mode == api.ModeMid
}

// areIn says whether all numbers of both lists lie from -far to far.
func areIn(a, b []int, far int) bool {
	for _, n := range slices.Concat(a, b) {
		if n < -far || far < n {
			return false
		}
	}
	return true
}

// stereoModel is the chapter's Stereo, of numbers from -far to far.
func stereoModel(mode int, a, b []int, far int) ([]int, []int, api.Errno) {
	if !isMode(mode) || len(a) != len(b) || !areIn(a, b, far) {
		return nil, nil, api.ErrArg
	}
	var c, d []int
	for i := range a {
		switch mode {
		case api.ModeAlone:
			c, d = append(c, a[i]), append(d, b[i])
		case api.ModeLeft:
			c, d = append(c, a[i]), append(d, a[i]-b[i])
		case api.ModeRight:
			c, d = append(c, a[i]-b[i]), append(d, b[i])
		case api.ModeMid:
			c, d = append(c, downwards(a[i]+b[i], 1)), append(d, a[i]-b[i])
		}
	}
	return c, d, api.OK
}

// numbers is a fixed row of numbers that look like chance (SplitMix64).
type numbers uint64

func (r *numbers) next() uint64 {
	*r += 0x9e3779b97f4a7c15
	x := uint64(*r)
	x = (x ^ x>>30) * 0xbf58476d1ce4e5b9
	x = (x ^ x>>27) * 0x94d049bb133111eb
	return x ^ x>>31
}

func (r *numbers) below(n int) int { return int(r.next() % uint64(n)) }

// signed is a number of up to so many bits, small ones as often as great ones.
func (r *numbers) signed(width int) int {
	return int(r.next()) >> (64 - 1 - r.below(width))
}

// list is so many numbers of up to so many bits.
func (r *numbers) list(count, width int) []int {
	l := make([]int, count)
	for i := range l {
		l[i] = r.signed(width)
	}
	return l
}

// short is a thing's beginning, for what a test says.
func short(a any) string {
	return fmt.Sprintf("%.120s", fmt.Sprint(a))
}

// isList fails, unless a call answered this list and this error.
func isList(t *testing.T, call string, got []int, e api.Errno, want []int, errno api.Errno) {
	t.Helper()
	if e != errno || !slices.Equal(got, want) {
		t.Fatalf("%s: %s, error %d; not %s, error %d", call, short(got), e, short(want), errno)
	}
}

// isFixed fails, unless Fixed answers what the model does, and Unfixed gives l back.
func isFixed(t *testing.T, order int, l []int) {
	t.Helper()
	want, errno := fixedModel(order, l)
	rest, e := predict.Fixed(order, l)
	isList(t, fmt.Sprintf("Fixed(%d, %s)", order, short(l)), rest, e, want, errno)
	if errno != api.OK {
		return
	}
	back, e := predict.Unfixed(order, l[:order], want)
	isList(t, fmt.Sprintf("Unfixed(%d, %v, %s)", order, l[:order], short(want)), back, e, l, api.OK)
}

// isUnfixed fails, unless Unfixed answers warm and numbers of which the model tells rest.
func isUnfixed(t *testing.T, order int, warm, rest []int) {
	t.Helper()
	call := fmt.Sprintf("Unfixed(%d, %v, %s)", order, warm, short(rest))
	l, e := predict.Unfixed(order, warm, rest)
	if order < 0 || order > 4 || len(warm) != order {
		isList(t, call, l, e, nil, api.ErrArg)
		return
	}
	if e != api.OK || len(l) != order+len(rest) {
		t.Fatalf("%s: %s, error %d", call, short(l), e)
	}
	told, _ := fixedModel(order, l)
	isList(t, call+", its residuals", told, e, rest, api.OK)
	isList(t, call+", its beginning", l[:order], e, warm, api.OK)
}

// isLpc fails, unless Lpc answers what the model does, and Unlpc gives l back.
func isLpc(t *testing.T, coefs []int, shift int, l []int) {
	t.Helper()
	want, errno := lpcModel(coefs, shift, l)
	rest, e := predict.Lpc(coefs, shift, l)
	isList(t, fmt.Sprintf("Lpc(%s, %d, %s)", short(coefs), shift, short(l)), rest, e, want, errno)
	if errno != api.OK {
		return
	}
	back, e := predict.Unlpc(coefs, shift, l[:len(coefs)], want)
	isList(t, fmt.Sprintf("Unlpc(%s, %d, .., %s)", short(coefs), shift, short(want)), back, e, l, api.OK)
}

// isUnlpc fails, unless Unlpc answers warm and numbers of which the model tells rest.
func isUnlpc(t *testing.T, coefs []int, shift int, warm, rest []int) {
	t.Helper()
	call := fmt.Sprintf("Unlpc(%s, %d, %s, %s)", short(coefs), shift, short(warm), short(rest))
	l, e := predict.Unlpc(coefs, shift, warm, rest)
	order := len(coefs)
	if order < 1 || order > 32 || shift < 0 || shift > 31 || len(warm) != order {
		isList(t, call, l, e, nil, api.ErrArg)
		return
	}
	if e != api.OK || len(l) != order+len(rest) {
		t.Fatalf("%s: %s, error %d", call, short(l), e)
	}
	told, _ := lpcModel(coefs, shift, l)
	isList(t, call+", its residuals", told, e, rest, api.OK)
	isList(t, call+", its beginning", l[:order], e, warm, api.OK)
}

// isTwo fails, unless a call answered these lists and this error.
func isTwo(t *testing.T, call string, c, d []int, e api.Errno, first, second []int, errno api.Errno) {
	t.Helper()
	if e != errno || !slices.Equal(c, first) || !slices.Equal(d, second) {
		t.Fatalf("%s: %s, %s, error %d; not %s, %s, error %d", call, short(c), short(d), e, short(first), short(second), errno)
	}
}

// isStereo fails, unless Stereo answers what the model does, and Unstereo gives a and b back.
func isStereo(t *testing.T, mode int, a, b []int) {
	t.Helper()
	first, second, errno := stereoModel(mode, a, b, 1<<40)
	c, d, e := predict.Stereo(mode, a, b)
	isTwo(t, fmt.Sprintf("Stereo(%d, %s, %s)", mode, short(a), short(b)), c, d, e, first, second, errno)
	if errno != api.OK {
		return
	}
	c, d, e = predict.Unstereo(mode, first, second)
	isTwo(t, fmt.Sprintf("Unstereo(%d, %s, %s)", mode, short(first), short(second)), c, d, e, a, b, api.OK)
}

// isUnstereo fails, unless Unstereo answers numbers of which the model tells a and b.
func isUnstereo(t *testing.T, mode int, a, b []int) {
	t.Helper()
	call := fmt.Sprintf("Unstereo(%d, %s, %s)", mode, short(a), short(b))
	c, d, e := predict.Unstereo(mode, a, b)
	if !isMode(mode) || len(a) != len(b) || !areIn(a, b, 1<<42) {
		isTwo(t, call, c, d, e, nil, nil, api.ErrArg)
		return
	}
	if e != api.OK {
		t.Fatalf("%s: error %d", call, e)
	}
	// What comes out may lie farther out than Stereo itself would take.
	first, second, _ := stereoModel(mode, c, d, 1<<50)
	isTwo(t, call+", told again", first, second, e, a, b, api.OK)
}
