package filter_test

import (
	"math"
	"testing"

	"lacquer/api"
	"lacquer/filter"
)

// Promise 17.3.

// isThereAndBack fails, unless each pair of calls undoes the other on l.
func isThereAndBack(t *testing.T, level int, l []int) {
	t.Helper()
	rests, e := filter.Forward(level, l)
	back, f := filter.Inverse(level, rests)
	isList(t, "Inverse of Forward", back, e+f, l, api.OK)
	rests, e = filter.Inverse(level, l)
	back, f = filter.Forward(level, rests)
	isList(t, "Forward of Inverse", back, e+f, l, api.OK)
}

func TestThereAndBack(t *testing.T) {
	r := numbers(1731)
	for level := range 3 {
		for range 300 {
			isThereAndBack(t, level, r.list(r.below(200), 1+r.below(32)))
		}
		isThereAndBack(t, level, edges(20000, 1732))
		isThereAndBack(t, level, still(math.MinInt32, 20000))
		isThereAndBack(t, level, swinging(math.MaxInt32, 20000))
		isThereAndBack(t, level, waves(1<<30, 20000, 1733))
	}
}

// Number by number: what one chain tells, another one takes back at once.
func TestNumberByNumber(t *testing.T) {
	r := numbers(1734)
	for level := range 3 {
		forth, back := filter.New(level), filter.New(level)
		for i := range 3000 {
			x := r.signed(64)
			if got := back.Inverse(forth.Forward(x)); got != modulo(x, 32) {
				t.Fatalf("level %d, number %d: %d became %d", level, i, x, got)
			}
		}
		// Both have seen the same by now, so that they may change places.
		for i := range 3000 {
			x := r.signed(64)
			if got := forth.Forward(back.Inverse(x)); got != modulo(x, 32) {
				t.Fatalf("level %d, number %d: %d became %d", level, i, x, got)
			}
		}
	}
}

func TestMidThereAndBack(t *testing.T) {
	r := numbers(1735)
	for range 500 {
		count, width := r.below(100), 1+r.below(64)
		a, b := r.list(count, width), r.list(count, width)
		m, s := filter.Mid(a, b)
		c, d := filter.Unmid(m, s)
		isTwo(t, "Unmid of Mid", c, d, a, b)
		m, s = filter.Unmid(a, b)
		c, d = filter.Mid(m, s)
		isTwo(t, "Mid of Unmid", c, d, a, b)
	}
}

// As a container has it: the middle of two planes and by how much they differ, each through a chain.
func TestTwoPlanes(t *testing.T) {
	r := numbers(1736)
	for level := range 3 {
		a, b := waves(30000, 2000, 1737), waves(30000, 2000, 1738)
		for i := range 50 {
			a[i], b[i] = r.signed(31), r.signed(31)
		}
		m, s := filter.Mid(a, b)
		first, e := filter.Forward(level, m)
		second, f := filter.Forward(level, s)
		if e != api.OK || f != api.OK {
			t.Fatalf("errors %d, %d", e, f)
		}
		m, e = filter.Inverse(level, first)
		s, f = filter.Inverse(level, second)
		c, d := filter.Unmid(m, s)
		isTwo(t, "two planes", c, d, a, b)
		if e != api.OK || f != api.OK {
			t.Fatalf("errors %d, %d", e, f)
		}
	}
}

// A row that a chain follows becomes quieter, the more so the longer the chain is.
func TestQuieter(t *testing.T) {
	l := waves(10000, 20000, 1739)
	loud := make([]int, 3)
	for level := range loud {
		rests, _ := filter.Forward(level, l)
		for _, n := range rests {
			loud[level] += max(n, -n)
		}
	}
	if !(loud[2] < loud[1] && loud[1]*2 < loud[0]) {
		t.Fatalf("as loud as %v", loud)
	}
}

// The longest plane.
func TestLongRow(t *testing.T) {
	r := numbers(1740)
	isThereAndBack(t, 2, r.list(api.MaxSamples, 24))
}

// FuzzFilter looks for numbers that are told wrongly, or that do not come back.
func FuzzFilter(f *testing.F) {
	f.Add("\x20\x20", 1, 0, 1)
	f.Add("\x80\x7f\xff\x00\x10\x9c", 2, 24, 300)
	f.Add("\x02\x04\x05", 3, 13, 50)
	f.Add("", -1, 32, 0)
	f.Fuzz(func(t *testing.T, s string, level, up, often int) {
		if len(s) > 200 {
			return
		}
		var l []int
		for range 1 + min(max(often, 0), 400)/(1+len(s)) {
			for i := range len(s) {
				l = append(l, int(int8(s[i]))<<(up&63))
			}
		}
		isForward(t, level, l)
		isInverse(t, level, l)
		if mayBe(level, l) {
			isForward(t, level, ahead(l))
		}
		half := len(l) / 3
		isMid(t, l[:half], l[half:])
		isUnmid(t, l[half:], l[:half])
	})
}
