package rice_test

import (
	"math"
	"slices"
	"testing"

	"lacquer/api"
	"lacquer/bits"
	"lacquer/rice"
)

// Promise 8.3.

// costModel is the chapter's Cost.
func costModel(l []int, k int) int {
	if k < 0 || k > 30 {
		return -1
	}
	sum := 0
	for _, n := range l {
		length, _, ok := riceLength(n, k)
		if !ok {
			return -1
		}
		sum += length
	}
	return sum
}

// isCost fails, unless Cost answers this.
func isCost(t *testing.T, l []int, k, want int) {
	t.Helper()
	if got := rice.Cost(l, k); got != want {
		t.Errorf("Cost(%s, %d): %d, not %d", short(l), k, got, want)
	}
}

func TestExamplesOfCost(t *testing.T) {
	l := []int{0, -1, 1, 2}
	isCost(t, l, 0, 11)
	isCost(t, l, 1, 11)
	isCost(t, l, 2, 3+3+3+4)
	isCost(t, l, 30, 4*31)
	isCost(t, l, 31, -1)
	isCost(t, l, -1, -1)
}

func TestParamsOfCost(t *testing.T) {
	for k := -3; k <= 66; k++ {
		for _, l := range [][]int{nil, {}, {0}, {-1}, {1}, {7, -300, 12, 0}} {
			isCost(t, l, k, costModel(l, k))
		}
	}
	for _, k := range []int{math.MinInt, -1, 31, 32, 64, math.MaxInt} {
		isCost(t, nil, k, -1)
		isCost(t, []int{1}, k, -1)
	}
	isCost(t, nil, 0, 0)
	isCost(t, nil, 30, 0)
	isCost(t, []int{}, 14, 0)
}

// What bits.Rice takes, first to last of a list, and what it refuses.
func TestRefusedByCost(t *testing.T) {
	for k := 0; k <= 30; k++ {
		up, down := (most<<k+1<<k-1)/2, -(most<<k+1<<k)/2
		for n := -3; n <= 3; n++ {
			for _, m := range []int{up + n, down + n, math.MaxInt, math.MinInt} {
				for _, l := range [][]int{{m}, {0, m}, {m, 0}, {0, m, 5}} {
					want := costModel(l, k)
					isCost(t, l, k, want)
					if (bits.New().Rice(m, k) == api.OK) != (want >= 0) {
						t.Fatalf("%d, %d", m, k)
					}
				}
			}
		}
	}
}

// bestModel is the chapter's Best: every Order, and in each partition every parameter.
func bestModel(block, order int, l []int) (api.Rice, int) {
	best, fewest := api.Rice{}, -1
	if len(l) != block-order {
		return best, fewest
	}
	for power := 0; power <= 4; power++ {
		r := coded(0, power)
		sum, rest := 6, l
		for _, size := range sizes(block, order, power) {
			part := rest[:size]
			rest = rest[size:]
			param, bits := -1, -1
			for k := 0; k <= 14; k++ {
				if n := costModel(part, k); n >= 0 && (bits < 0 || n < bits) {
					param, bits = k, n
				}
			}
			if param >= 0 {
				r.Params, r.Escapes = append(r.Params, param), append(r.Escapes, -1)
				sum += 4 + bits
			}
		}
		if mayBe(r, block, order) && (fewest < 0 || sum < fewest) {
			best, fewest = r, sum
		}
	}
	return best, fewest
}

// isBest fails, unless Best answers this.
func isBest(t *testing.T, block, order int, l []int, want api.Rice, fewest int) {
	t.Helper()
	r, n := rice.Best(block, order, l)
	if !sameRice(r, want) || n != fewest {
		t.Fatalf("Best(%d, %d, %s): %s, %d; not %s, %d", block, order, short(l), short(r), n, short(want), fewest)
	}
}

// isBestAsModel fails, unless Best answers what the model does, and Encode writes as many bits.
func isBestAsModel(t *testing.T, block, order int, l []int) {
	t.Helper()
	want, fewest := bestModel(block, order, l)
	isBest(t, block, order, l, want, fewest)
	if fewest < 0 {
		return
	}
	w := bits.New()
	if e := rice.Encode(w, want, block, order, l); e != api.OK || w.Len() != fewest {
		t.Fatalf("Encode of Best's: error %d, %d bits, not %d", e, w.Len(), fewest)
	}
}

func TestExamplesOfBest(t *testing.T) {
	isBest(t, 4, 0, []int{0, -1, 1, 2}, coded(0, 0, 0), 21)
}

func TestBestByHand(t *testing.T) {
	// One partition of no numbers: any parameter has no bits, the least is taken.
	isBest(t, 1, 1, nil, coded(0, 0, 0), 10)
	isBest(t, 32, 32, []int{}, coded(0, 0, 0), 10)
	isBest(t, 3, 0, []int{0, 0, 0}, coded(0, 0, 0), 13)
	// Quiet and loud: two partitions are worth their heads; u of 1000 is 2000, with parameter 10: 1, 1 and 10 bits.
	quiet, loud := make([]int, 16), slices.Repeat([]int{1000}, 16)
	isBest(t, 32, 0, append(slices.Clone(quiet), loud...), coded(0, 1, 0, 10), 6+4+16+4+16*12)
	isBest(t, 32, 3, append(slices.Clone(quiet[3:]), loud...), coded(0, 1, 0, 10), 6+4+13+4+16*12)
	isBest(t, 32, 16, loud, coded(0, 0, 10), 6+4+16*12)
	// The same, but 33 numbers cannot be cut.
	isBest(t, 33, 0, append(make([]int, 17), loud...), coded(0, 0, 9), 6+4+17*10+16*(3+1+9))
}

// Of several parameters with as many bits the least, of several Orders the least.
func TestSeveralBest(t *testing.T) {
	// u 2: 001, or 0 1 0: both of 3 bits; 0 and 1 are as good.
	isBest(t, 1, 0, []int{1}, coded(0, 0, 0), 13)
	isBest(t, 5, 0, slices.Repeat([]int{1}, 5), coded(0, 0, 0), 25)
	// u 12: 6 bits with the parameter 2, 5 with 3 and with 4.
	isBest(t, 2, 1, []int{6}, coded(0, 0, 3), 6+4+5)
	isCost(t, []int{6}, 2, 6)
	isCost(t, []int{6}, 3, 5)
	isCost(t, []int{6}, 4, 5)
	// n times 0 and n times 2: 6 bits of each two in one partition, 5 in two, which have 4 bits of a head more.
	halves := func(n int) []int { return append(make([]int, n), slices.Repeat([]int{2}, n)...) }
	isBest(t, 6, 0, halves(3), coded(0, 0, 0), 6+4+3*6)
	isBest(t, 8, 0, halves(4), coded(0, 0, 0), 6+4+4*6)
	isBest(t, 10, 0, halves(5), coded(0, 1, 0, 1), 6+8+5*5)
}

func TestManyBest(t *testing.T) {
	r := numbers(821)
	for range 4000 {
		size := 1 + r.below(12)
		block := size << r.below(6)
		order := r.below(min(block, 32) + 1)
		l := make([]int, block-order)
		width := 1 + r.below(20)
		for i := range l {
			if r.below(8) == 0 {
				width = 1 + r.below(20)
			}
			l[i] = r.signed(width)
		}
		isBestAsModel(t, block, order, l)
	}
}

// Few numbers, so that many Rices are as good.
func TestAllShortLists(t *testing.T) {
	for block := 1; block <= 4; block++ {
		for order := 0; order <= block; order++ {
			count := block - order
			total := 1
			for range count {
				total *= 7
			}
			for i := range total {
				l := make([]int, count)
				for j := range l {
					l[j] = []int{0, -1, 1, 2, -4, 9, 30}[i%7]
					i /= 7
				}
				isBestAsModel(t, block, order, l)
			}
		}
	}
	// Two of each four are alike, so that cuts gain just their heads or not.
	for i := 0; i < 1<<16; i += 7 {
		l := make([]int, 8)
		for j := range l {
			l[j] = []int{0, 1, 3, 6}[i>>(2*j)&3]
		}
		isBestAsModel(t, 8, 0, l)
	}
}

// Orders above 4 are not looked at, however much they would gain.
func TestBestLooksAtFiveOrders(t *testing.T) {
	var l []int
	for i := range 32 {
		l = append(l, slices.Repeat([]int{i % 2 * 5000}, 64)...)
	}
	want, fewest := bestModel(2048, 0, l)
	isBest(t, 2048, 0, l, want, fewest)
	w := bits.New()
	better := coded(0, 5, slices.Repeat([]int{0, 13}, 16)...)
	if e := rice.Encode(w, better, 2048, 0, l); e != api.OK || w.Len() >= fewest {
		t.Errorf("error %d, %d bits, not below %d", e, w.Len(), fewest)
	}
	for power := 1; power <= 4; power++ {
		var l []int
		for i := range 1 << power {
			l = append(l, slices.Repeat([]int{i % 2 * 5000}, 64)...)
		}
		r, n := rice.Best(64<<power, 0, l)
		if r.Order != power || n != 6+4<<power+64<<(power-1)+64*15<<(power-1) {
			t.Errorf("%d: %s, %d", power, short(r), n)
		}
		r, _ = rice.Best(64<<power, 32, l[32:])
		if r.Order != power {
			t.Errorf("%d: %s", power, short(r))
		}
	}
}

func TestBestOfNone(t *testing.T) {
	none := func(block, order int, l []int) {
		t.Helper()
		isBest(t, block, order, l, api.Rice{}, -1)
	}
	for _, block := range []int{math.MinInt, -1, 0, 65536, math.MaxInt} {
		none(block, 0, nil)
		none(block, 0, []int{1})
		none(block, block, nil)
		none(block, 1, nil)
	}
	none(65536, 0, make([]int, 65536))
	none(65536, 1, make([]int, 65535))
	for _, order := range []int{math.MinInt, -1, 33, math.MaxInt} {
		none(64, order, make([]int, 64))
		none(64, order, make([]int, 31))
		none(64, order, make([]int, 65))
		none(33, order, nil)
	}
	none(5, 6, nil)
	none(1, 32, nil)
	for _, count := range []int{0, 1, 4, 6, 7, 8, 100} {
		none(8, 3, make([]int, count))
	}
	isBest(t, 8, 3, make([]int, 5), coded(0, 0, 0), 15)
	isBestAsModel(t, 65535, 0, make([]int, 65535))
	isBestAsModel(t, 65520, 32, make([]int, 65520-32))
}

// The greatest number that a parameter of method 0 takes, and one more, at each place.
func TestBestOfGreatNumbers(t *testing.T) {
	up, down := (most<<14+1<<14-1)/2, -(most<<14+1<<14)/2
	for _, block := range []int{1, 6, 16, 32} {
		for i := range block {
			l := slices.Repeat([]int{3}, block)
			for _, n := range []int{up + 1, down - 1, math.MaxInt, math.MinInt} {
				l[i] = n
				isBest(t, block, 0, l, api.Rice{}, -1)
			}
			for _, n := range []int{up, down} {
				l[i] = n
				want, fewest := bestModel(block, 0, l)
				isBest(t, block, 0, l, want, fewest)
				if fewest < most {
					t.Fatal(fewest)
				}
			}
		}
	}
	// Past the smallest parameters alone: they are refused, others are not.
	for k := 1; k <= 14; k++ {
		l := []int{0, 0, most << (k - 1), 0}
		want, fewest := bestModel(4, 0, l)
		isBest(t, 4, 0, l, want, fewest)
		l[3] = -most<<(k-1) - 1
		want, fewest = bestModel(4, 0, l)
		isBest(t, 4, 0, l, want, fewest)
	}
}
