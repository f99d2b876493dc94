package filter_test

import (
	"fmt"
	"math"
	"math/big"
	"slices"
	"testing"

	"lacquer/api"
	"lacquer/filter"
)

// The tests hold the package against the chapter's words spelt out: every number that came is kept, and what is wrapped or rounded is divided.

// modulo is the number of so many bits that n is modulo 2^width.
func modulo(n, width int) int {
	size := 1
	for range width {
		size *= 2
	}
	n %= size
	if n < -size/2 {
		return n + size
	}
	if n >= size/2 {
		return n - size
	}
	return n
}

// downwards is n / d, downwards.
func downwards(n, d int) int {
	q := n / d
	if n%d < 0 {
		q--
	}
	return q
}

// signOf is -1, 0 or 1.
func signOf(n int) int {
	if n == 0 {
		return 0
	}
	if n > 0 {
		return 1
	}
	return -1
}

// came counts which of the edges a row came to.
type came map[string]int

// note counts the edge, if it is there.
func (c came) note(edge string, there bool) {
	if there {
		c[edge]++
	}
}

// stepModel is the chapter's first step, if it has no taps; else its filter.
type stepModel struct {
	taps    int
	weights []int
	saw     []int // all numbers, the newest last
	came    came
}

// number is the i-th of the last numbers, counted from 0, the newest first.
func (s *stepModel) number(i int) int {
	if i >= len(s.saw) {
		return 0
	}
	return s.saw[len(s.saw)-1-i]
}

// cutNumber is that number cut to 16 bits.
func (s *stepModel) cutNumber(i int) int {
	n := s.number(i)
	s.came.note("cut above", n > 32767)
	s.came.note("cut below", n < -32768)
	if n > 32767 {
		return 32767
	}
	if n < -32768 {
		return -32768
	}
	return n
}

// foretells is what the chapter says that the step foretells.
func (s *stepModel) foretells() int {
	sum, d := 0, 8192
	for i, w := range s.weights {
		sum += w * s.cutNumber(i)
	}
	if s.taps == 0 {
		sum, d = s.number(0)*31, 32
	}
	told := downwards(sum, d)
	s.came.note("foretold below nought", told < 0)
	s.came.note("rounded below nought", sum < 0 && sum%d != 0)
	s.came.note("great sum above", s.taps > 0 && sum > math.MaxInt32)
	s.came.note("great sum below", s.taps > 0 && sum < math.MinInt32)
	s.came.note("let go", s.taps > 0 && s.number(s.taps) != 0)
	return told
}

// sees is what the chapter says of the filter behind a number.
func (s *stepModel) sees(x, rest int) {
	s.came.note("nothing left over", s.taps > 0 && rest == 0 && len(s.saw) > 0)
	for i, w := range s.weights {
		n := s.number(i)
		s.came.note("nought seen", n == 0 && i < len(s.saw))
		w += signOf(rest) * signOf(n) * 8
		s.weights[i] = modulo(w, 16)
		s.came.note("weight wrapped above", w > 32767)
		s.came.note("weight wrapped below", w < -32768)
		s.came.note("weight of -32768", s.weights[i] == -32768)
	}
	s.saw = append(s.saw, x)
}

// chainModel is the chapter's chain.
type chainModel []*stepModel

// modelOf is a chain of the level that has seen nothing, and what its rows come to.
func modelOf(level int) (chainModel, came) {
	all, c := came{}, chainModel{}
	for _, taps := range [][]int{{}, {0, 16}, {0, 32, 16}}[level] {
		c = append(c, &stepModel{taps: taps, weights: make([]int, taps), came: all})
	}
	return c, all
}

func (c chainModel) forward(x int) int {
	x = modulo(x, 32)
	for _, s := range c {
		told := s.foretells()
		rest := modulo(x-told, 32)
		s.came.note("rest wrapped", rest != x-told)
		s.sees(x, rest)
		x = rest
	}
	return x
}

func (c chainModel) inverse(rest int) int {
	rest = modulo(rest, 32)
	for _, s := range slices.Backward(c) {
		x := modulo(rest+s.foretells(), 32)
		s.sees(x, rest)
		rest = x
	}
	return rest
}

// mayBe says whether Forward and Inverse may be asked this.
func mayBe(level int, l []int) bool {
	if level < 0 || level > 2 {
		return false
	}
	for _, n := range l {
		if n < -1<<31 || n > 1<<31-1 {
			return false
		}
	}
	return true
}

// forwardModel is the chapter's Forward of a row, and what it came to.
func forwardModel(level int, l []int) ([]int, api.Errno, came) {
	if !mayBe(level, l) {
		return nil, api.ErrArg, nil
	}
	c, all := modelOf(level)
	rests := []int{}
	for _, x := range l {
		rests = append(rests, c.forward(x))
	}
	return rests, api.OK, all
}

// inverseModel is the chapter's Inverse of a row.
func inverseModel(level int, l []int) ([]int, api.Errno) {
	if !mayBe(level, l) {
		return nil, api.ErrArg
	}
	c, _ := modelOf(level)
	out := []int{}
	for _, x := range l {
		out = append(out, c.inverse(x))
	}
	return out, api.OK
}

// asInt is n modulo 2^64, as an int has it.
func asInt(n *big.Int) int {
	m := new(big.Int).And(n, new(big.Int).SetUint64(math.MaxUint64))
	return int(m.Uint64())
}

// sumOf is a plus b times by.
func sumOf(a, b, by int) int {
	n := new(big.Int).Mul(big.NewInt(int64(b)), big.NewInt(int64(by)))
	return asInt(n.Add(n, big.NewInt(int64(a))))
}

// midModel is the chapter's Mid.
func midModel(a, b []int) ([]int, []int) {
	m, s := []int{}, []int{}
	for i := 0; i < len(a) && i < len(b); i++ {
		d := sumOf(a[i], b[i], -1)
		s = append(s, d)
		m = append(m, sumOf(b[i], downwards(d, 2), 1))
	}
	return m, s
}

// numbers is a fixed row of numbers that look like chance (SplitMix64).
type numbers uint64

func (r *numbers) next() uint64 {
	*r += 0x9e3779b97f4a7c15
	x := uint64(*r)
	x = (x ^ x>>30) * 0xbf58476d1ce4e5b9
	x = (x ^ x>>27) * 0x94d049bb133111eb
	return x ^ x>>31
}

func (r *numbers) below(n int) int { return int(r.next() % uint64(n)) }

// signed is a number of up to so many bits, small ones as often as great ones.
func (r *numbers) signed(width int) int {
	return int(r.next()) >> (64 - 1 - r.below(width))
}

// list is so many numbers of up to so many bits.
func (r *numbers) list(count, width int) []int {
	l := make([]int, count)
	for i := range l {
		l[i] = r.signed(width)
	}
	return l
}

// short is a thing's beginning, for what a test says.
func short(a any) string {
	return fmt.Sprintf("%.120s", fmt.Sprint(a))
}

// isList fails, unless a call answered this list and this error.
func isList(t *testing.T, call string, got []int, e api.Errno, want []int, errno api.Errno) {
	t.Helper()
	if e == errno && slices.Equal(got, want) {
		return
	}
	at := 0
	for at < len(got) && at < len(want) && got[at] == want[at] {
		at++
	}
	t.Fatalf("%s: %s, error %d; not %s, error %d; from place %d on %s, not %s",
		call, short(got), e, short(want), errno, at, short(got[at:]), short(want[at:]))
}

// isTwo fails, unless a call answered these lists.
func isTwo(t *testing.T, call string, c, d, first, second []int) {
	t.Helper()
	if !slices.Equal(c, first) || !slices.Equal(d, second) {
		t.Fatalf("%s: %s, %s; not %s, %s", call, short(c), short(d), short(first), short(second))
	}
}

// isForward fails, unless Forward answers what the model does, and Inverse gives l back. It tells what the row came to.
func isForward(t *testing.T, level int, l []int) came {
	t.Helper()
	want, errno, all := forwardModel(level, l)
	rests, e := filter.Forward(level, l)
	isList(t, fmt.Sprintf("Forward(%d, %s)", level, short(l)), rests, e, want, errno)
	if errno == api.OK {
		back, e := filter.Inverse(level, want)
		isList(t, fmt.Sprintf("Inverse(%d, %s)", level, short(want)), back, e, l, api.OK)
	}
	return all
}

// isInverse fails, unless Inverse answers what the model does, and Forward gives l back.
func isInverse(t *testing.T, level int, l []int) {
	t.Helper()
	want, errno := inverseModel(level, l)
	got, e := filter.Inverse(level, l)
	isList(t, fmt.Sprintf("Inverse(%d, %s)", level, short(l)), got, e, want, errno)
	if errno == api.OK {
		back, e := filter.Forward(level, want)
		isList(t, fmt.Sprintf("Forward(%d, %s)", level, short(want)), back, e, l, api.OK)
	}
}

// isMid fails, unless Mid answers what the model does.
func isMid(t *testing.T, a, b []int) {
	t.Helper()
	first, second := midModel(a, b)
	m, s := filter.Mid(a, b)
	isTwo(t, fmt.Sprintf("Mid(%s, %s)", short(a), short(b)), m, s, first, second)
}

// isUnmid fails, unless Unmid answers as many numbers as the shorter list has, of which the model tells m and s.
func isUnmid(t *testing.T, m, s []int) {
	t.Helper()
	call := fmt.Sprintf("Unmid(%s, %s)", short(m), short(s))
	a, b := filter.Unmid(m, s)
	count := min(len(m), len(s))
	if len(a) != count || len(b) != count {
		t.Fatalf("%s: %d and %d numbers", call, len(a), len(b))
	}
	first, second := midModel(a, b)
	isTwo(t, call+", told again", first, second, m[:count], s[:count])
}
