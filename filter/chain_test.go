package filter_test

import (
	"fmt"
	"math"
	"slices"
	"testing"

	"lacquer/api"
	"lacquer/filter"
	"lacquer/sums"
)

// Promise 17.1.

// The chapter's examples.
func TestExamples(t *testing.T) {
	l := []int{5, -7, 0, math.MinInt32, math.MaxInt32, 32}
	got, e := filter.Forward(0, l)
	isList(t, "Forward at level 0", got, e, l, api.OK)
	got, e = filter.Inverse(0, l)
	isList(t, "Inverse at level 0", got, e, l, api.OK)
	got, e = filter.Forward(1, []int{32, 32})
	isList(t, "Forward of 32, 32", got, e, []int{32, 1}, api.OK)
	got, e = filter.Inverse(1, []int{32, 1})
	isList(t, "Inverse of 32, 1", got, e, []int{32, 32}, api.OK)
	c := filter.New(1)
	if a, b := c.Forward(32), c.Forward(32); a != 32 || b != 1 {
		t.Fatalf("a chain tells %d, %d of 32, 32", a, b)
	}
}

func TestLevels(t *testing.T) {
	for _, level := range []int{0, 1, 2} {
		if filter.New(level) == nil {
			t.Fatalf("New(%d) is nil", level)
		}
		for _, l := range [][]int{nil, {}, {0}, {-9}, {7, 7, 7}} {
			isForward(t, level, l)
			isInverse(t, level, l)
		}
	}
	for _, level := range []int{-1, 3, 4, -2, 16, 32, 256, 1 << 32, -1 << 32, 1<<32 + 1, math.MinInt, math.MaxInt} {
		if filter.New(level) != nil {
			t.Fatalf("New(%d) is a chain", level)
		}
		for _, l := range [][]int{nil, {}, {0}, {7, 7}, {1 << 31}} {
			isForward(t, level, l)
			isInverse(t, level, l)
		}
	}
}

// One number that may not be spoils a row, wherever it stands.
func TestNumbersBeyond(t *testing.T) {
	for level := range 3 {
		for _, n := range []int{math.MaxInt32, math.MinInt32, math.MaxInt32 + 1, math.MinInt32 - 1, 1 << 32, -1 << 32, math.MaxInt, math.MinInt} {
			for _, count := range []int{1, 2, 3, 40} {
				for _, at := range []int{0, count / 2, count - 1} {
					l := still(5, count)
					l[at] = n
					isForward(t, level, l)
					isInverse(t, level, l)
				}
			}
		}
		got, e := filter.Forward(level, []int{1, 1 << 31})
		isList(t, "Forward", got, e, nil, api.ErrArg)
		got, e = filter.Inverse(level, []int{1, -1<<31 - 1})
		isList(t, "Inverse", got, e, nil, api.ErrArg)
	}
}

// Beside an error stands no list, not even an empty one.
func TestNothingBesideAnError(t *testing.T) {
	for _, way := range []func(int, []int) ([]int, api.Errno){filter.Forward, filter.Inverse} {
		for _, level := range []int{-1, 0, 1, 2, 3} {
			if l, e := way(level, []int{1, 2, math.MaxInt}); l != nil || e != api.ErrArg {
				t.Fatalf("level %d: %v, error %d", level, l, e)
			}
		}
		for _, level := range []int{-1, 3} {
			if l, e := way(level, []int{1, 2}); l != nil || e != api.ErrArg {
				t.Fatalf("level %d: %v, error %d", level, l, e)
			}
		}
	}
}

// A chain takes any number modulo 2^32.
func TestAnyNumberGoesIntoAChain(t *testing.T) {
	r := numbers(1711)
	l := []int{math.MaxInt32, math.MaxInt32 + 1, math.MinInt32, math.MinInt32 - 1, 1 << 32, 1<<32 + 5, -1 << 32, 3 << 31, math.MaxInt, math.MinInt, 1<<33 - 1}
	l = append(l, r.list(300, 64)...)
	for level := range 3 {
		forth, back := filter.New(level), filter.New(level)
		forthModel, _ := modelOf(level)
		backModel, _ := modelOf(level)
		for i, x := range l {
			if got, want := forth.Forward(x), forthModel.forward(modulo(x, 32)); got != want {
				t.Fatalf("level %d, number %d: Forward(%d) is %d, not %d", level, i, x, got, want)
			}
			if got, want := back.Inverse(x), backModel.inverse(modulo(x, 32)); got != want {
				t.Fatalf("level %d, number %d: Inverse(%d) is %d, not %d", level, i, x, got, want)
			}
		}
	}
	c, d := filter.New(0), filter.New(0)
	if a, b := c.Forward(1<<31), d.Inverse(-1<<31-1); a != -1<<31 || b != 1<<31-1 {
		t.Fatalf("2^31 is told as %d, and -2^31 - 1 as %d", a, b)
	}
}

// A chain that is none answers, too.
func TestNoChain(t *testing.T) {
	var none *filter.Chain
	if a, b := none.Forward(5), none.Inverse(5); a != 0 || b != 0 {
		t.Fatalf("%d, %d", a, b)
	}
	var empty filter.Chain
	empty.Forward(5)
	empty.Inverse(5)
}

// Rows of all kinds, as the model has them; together they come to all edges.
func TestRowsAsTheModel(t *testing.T) {
	r := numbers(1712)
	rows := [][]int{
		still(0, 100), still(1, 100), still(-1, 100), still(math.MinInt32, 100), still(math.MaxInt32, 100),
		still(8192, 200), swinging(8192, 200), swinging(32767, 300), swinging(math.MaxInt32, 300), ahead(still(40000, 200)),
		ahead(still(1<<30, 5000)), ahead(swinging(1<<30, 5000)), ahead(still(-1<<30, 5000)),
		waves(100, 3000, 1713), waves(30000, 3000, 1714), waves(8000000, 3000, 1715), waves(2000000000, 3000, 1716),
		edges(3000, 1717), ahead(edges(3000, 1718)),
		beats(8192, 200, 0, 16, 32, 100, 116, 150), beats(-1<<31, 200, 0, 32, 64, 65, 96),
	}
	for range 150 {
		rows = append(rows, r.list(r.below(150), 1+r.below(32)))
	}
	for level := range 3 {
		all := came{}
		for _, l := range rows {
			for edge, count := range isForward(t, level, l) {
				all[edge] += count
			}
			isInverse(t, level, l)
		}
		if level == 0 {
			continue
		}
		for _, edge := range []string{
			"cut above", "cut below", "foretold below nought", "rounded below nought", "great sum above", "great sum below", "let go",
			"nothing left over", "nought seen", "weight wrapped above", "weight wrapped below", "weight of -32768", "rest wrapped",
		} {
			if all[edge] == 0 {
				t.Errorf("no row at level %d came to this: %s", level, edge)
			}
		}
	}
}

// A row, and what chains leave over of it, worked out by another program: its beginning, its end, and Crc32 of all, four bytes each, the lowest first.
type workedOut struct {
	name    string
	formula func(n int) int
	level   int
	begin   []int
	end     []int
	crc     int
}

// rowsWorkedOut is loud rows of 9000 numbers.
func rowsWorkedOut() []workedOut {
	squares := func(n int) int { return n*n*7919%200001 - 100000 }
	saw := func(n int) int { return (37*n%400 - 200) * 60 }
	cubes := func(n int) int { return modulo(n*n*n*1234567, 32) }
	return []workedOut{
		{"squares", squares, 1, []int{-100000, 4794, 20885, 37465, 54509, 72015, -110017, 102582}, []int{-178198, 3581, 63638, -110726, 81558, -54329}, 1236297672},
		{"squares", squares, 2, []int{-100000, 4794, 20890, 37470, 54482, 71924, -110204, 102683}, []int{-174644, -623, 55573, -105646, 76880, -32926}, 4186408739},
		{"saw", saw, 1, []int{-12000, 1845, 1917, 1986, 2054, 2119, 2182, 2244}, []int{288, 24, -1489, -15, -87, -161}, 831002565},
		{"saw", saw, 2, []int{-12000, 1845, 1919, 1988, 2054, 2115, 2172, 2226}, []int{-237932, -373034, -247887, 68592, 52072, 51155}, 297211195},
		{"cubes", cubes, 1, []int{0, 1234567, 8680550, 23765384, 46720550, 77777530, 117167806, 165122858}, []int{1160732659, -898246725, 1279572538, -761222231, 1435240515, -586443715}, 2958099500},
		{"cubes", cubes, 2, []int{0, 1234567, 8680550, 23765353, 46720455, 77777339, 117167487, 165122379}, []int{1160703219, -898216901, 1279539514, -761194583, 1435213123, -586420291}, 1384056011},
	}
}

// inBytes is each number as four bytes, the lowest first.
func inBytes(l []int) string {
	var b []byte
	for _, n := range l {
		u := uint32(int32(n))
		b = append(b, byte(u), byte(u>>8), byte(u>>16), byte(u>>24))
	}
	return string(b)
}

func TestRowsWorkedOut(t *testing.T) {
	for _, w := range rowsWorkedOut() {
		l := ofFormula(9000, w.formula)
		rests, e := filter.Forward(w.level, l)
		call := fmt.Sprintf("Forward(%d, %s)", w.level, w.name)
		isList(t, call, rests[:8], e, w.begin, api.OK)
		isList(t, call+", its end", rests[len(rests)-6:], e, w.end, api.OK)
		if crc := sums.Crc32(inBytes(rests)); crc != w.crc {
			t.Fatalf("%s: Crc32 %d, not %d", call, crc, w.crc)
		}
		back, e := filter.Inverse(w.level, rests)
		isList(t, "Inverse of "+call, back, e, l, api.OK)
	}
}

// isBehind fails, unless the filter of 16 taps leaves rests of l, asked alone.
func isBehind(t *testing.T, name string, l, rests []int) {
	t.Helper()
	got, e := filter.Forward(1, ahead(l))
	isList(t, name, got, e, rests, api.OK)
	got, e = filter.Inverse(1, rests)
	isList(t, name+", back", got, e, ahead(l), api.OK)
}

func TestFirstStep(t *testing.T) {
	// The filter behind it has no weight yet at the second number.
	for _, c := range [][]int{
		{32, 32, 1}, {31, 0, -30}, {33, 0, -31}, {1, 0, 0}, {64, -1, -63},
		{-1, 0, 1}, {-32, 0, 31}, {-33, 0, 32}, {-31, 0, 31}, {-64, 1, 63},
		{math.MaxInt32, math.MaxInt32, 67108864}, {math.MinInt32, math.MinInt32, -67108864},
		{math.MaxInt32, math.MinInt32, 67108865}, {math.MinInt32, math.MaxInt32, -67108865},
		{math.MinInt32, 67108864, -2147483648}, {math.MinInt32, 67108863, 2147483647}, {math.MaxInt32, -67108865, math.MinInt32}, {math.MaxInt32, -67108866, math.MaxInt32},
	} {
		for level := 1; level <= 2; level++ {
			got, e := filter.Forward(level, c[:2])
			isList(t, fmt.Sprintf("Forward(%d, %v)", level, c[:2]), got, e, []int{c[0], c[2]}, api.OK)
			isForward(t, level, c[:2])
		}
	}
}

// A still row: while something above 0 is left over, the weight of the number i places back is 8 for each number that had one so far back.
func TestStillRow(t *testing.T) {
	for _, x := range []int{1, 500, 8191, 8192, 8193, 20000, 32766, 32767, 32768, 40000, 65536, 1 << 24} {
		var rests []int
		cut := min(x, 32767)
		for n := 0; n < 400; n++ {
			weights := 0
			for i := 0; i < min(16, n); i++ {
				weights += 8 * (n - 1 - i)
			}
			rests = append(rests, x-downwards(weights*cut, 8192))
			if rests[n] <= 0 {
				break
			}
		}
		isBehind(t, fmt.Sprintf("still %d", x), still(x, len(rests)), rests)
	}
	// From there on it is 64 too much and 64 too little in turns.
	rests, e := filter.Forward(1, ahead(still(8192, 80)))
	isList(t, "still 8192", rests[70:], e, []int{320, 192, 64, -64, 64, -64, 64, -64, 64, -64}, api.OK)
}

// What is foretold below nought is rounded downwards, so that a row of -1 is foretold rightly by a weight of 8.
func TestRoundedDownwards(t *testing.T) {
	isBehind(t, "a row of -1", still(-1, 20), append([]int{-1, -1}, still(0, 18)...))
	isBehind(t, "a row of 1", still(1, 20), still(1, 20))
}

// Nothing is learnt of a number of which nothing is left over, nor of numbers that were 0.
func TestNothingToLearn(t *testing.T) {
	isBehind(t, "0", still(0, 50), still(0, 50))
	isBehind(t, "8192 ahead of 0", beats(8192, 50, 0), beats(8192, 50, 0))
	isBehind(t, "0 ahead of 8192", beats(8192, 50, 49), beats(8192, 50, 49))
	// The third number is foretold by the first weight, which is 8 by then; the sixth by it and by the fourth weight.
	l := []int{8192, 8192, 8, 0, 8192, 16}
	isBehind(t, "learnt in between", l, []int{8192, 8192, 0, 0, 8192, 0})
}

// A row that is loud for so long that the weights wrap.
func TestWeightsWrap(t *testing.T) {
	loud, swing := still(1<<30, 10000), swinging(1<<30, 10000)
	var loudRests, swingRests []int
	lowest, highest := 0, 0
	for n := range loud {
		sum, swingSum := 0, 0
		for i := 0; i < min(16, n); i++ {
			w := modulo(8*(n-1-i), 16)
			lowest, highest = min(lowest, w), max(highest, w)
			sum += w * 32767
			if i%2 == 0 {
				w = modulo(-w, 16)
			}
			number := 32767
			if swing[n-1-i] < 0 {
				number = -32768
			}
			swingSum += w * number
		}
		loudRests = append(loudRests, loud[n]-downwards(sum, 8192))
		swingRests = append(swingRests, swing[n]-downwards(swingSum, 8192))
	}
	if lowest != -32768 || highest != 32760 {
		t.Fatalf("weights from %d to %d", lowest, highest)
	}
	isBehind(t, "loud", loud, loudRests)
	isBehind(t, "swinging", swing, swingRests)
}

// What is left over wraps, and it is the wrapped number's sign by which the weights go: here upwards, by 8, 8 and 8.
func TestRestWraps(t *testing.T) {
	l := []int{8192, 8192, 8192, math.MinInt32, 0}
	isBehind(t, "wrapped above", l, []int{8192, 8192, 8184, math.MaxInt32 - 23, 72})
	l = []int{-8192, -8192, -8192, math.MinInt32, 0}
	isBehind(t, "not wrapped", l, []int{-8192, -8192, -8184, math.MinInt32 + 24, 120})
	l = []int{-8192, 8192, -8192, 8192, math.MinInt32, 0}
	isForward(t, 1, ahead(l))
}

// Numbers are cut, not wrapped, and only for what is foretold.
func TestNumbersAreCut(t *testing.T) {
	for _, c := range [][]int{{32767, 32767}, {32768, 32767}, {40000, 32767}, {65536, 32767}, {100000, 32767}, {math.MaxInt32, 32767}, {-32768, -32768}, {-32769, -32768}, {-40000, -32768}, {-65536, -32768}, {math.MinInt32, -32768}} {
		// Behind two numbers of the same sign the first weight is 8: 8 times a cut number, divided by 8192.
		x, told := c[0], downwards(8*c[1], 8192)
		isBehind(t, fmt.Sprintf("%d twice", x), []int{x, x, told}, []int{x, x, 0})
		isBehind(t, fmt.Sprintf("%d twice", x), []int{x, x, x}, []int{x, x, modulo(x-told, 32)})
	}
}

// A filter of 16 taps knows of 16 numbers, one of 32 of 32, and of no older ones.
func TestOldestIsLetGo(t *testing.T) {
	isBehind(t, "16 places back", beats(8192, 60, 0, 16), addTo(beats(8192, 60, 0, 16), 32, -8))
	isBehind(t, "17 places back", beats(8192, 60, 0, 17), beats(8192, 60, 0, 17))
	for _, c := range []struct{ back, rest int }{{15, -16}, {16, -16}, {17, -8}, {31, -8}, {32, -8}, {33, 0}} {
		l := beats(8192, 2*c.back+1, 0, c.back)
		rests, e := filter.Forward(2, ahead(l))
		call := fmt.Sprintf("level 2, %d places back", c.back)
		isList(t, call, rests, e, addTo(l, 2*c.back, c.rest), api.OK)
		back, e := filter.Inverse(2, rests)
		isList(t, call, back, e, ahead(l), api.OK)
	}
}

// addTo is l with by added at a place.
func addTo(l []int, place, by int) []int {
	l = slices.Clone(l)
	l[place] += by
	return l
}

// A chain that is asked both ways in turns sees all the numbers that went through it.
func TestInTurns(t *testing.T) {
	for level := range 3 {
		for seed := range numbers(30) {
			r := 17190 + seed
			c := filter.New(level)
			model, _ := modelOf(level)
			width, often := 1+r.below(33), 1+r.below(5)
			for i := range 300 {
				x := r.signed(width)
				got, want := 0, 0
				if r.below(often+1) == 0 {
					got, want = c.Inverse(x), model.inverse(x)
				} else {
					got, want = c.Forward(x), model.forward(x)
				}
				if got != want {
					t.Fatalf("level %d, call %d, of %d: %d, not %d", level, i, x, got, want)
				}
			}
		}
	}
	// After 32 there and back, the first step foretells 31 either way.
	c := filter.New(1)
	if a, b, d := c.Forward(32), c.Inverse(1), c.Forward(31); a != 32 || b != 32 || d != 0 {
		t.Fatalf("%d, %d, %d", a, b, d)
	}
}

// Chains know nothing of each other.
func TestChainsBesideEachOther(t *testing.T) {
	r := numbers(17191)
	one, two := r.list(200, 20), waves(20000, 200, 17192)
	for level := range 3 {
		for other := range 3 {
			first, _, _ := forwardModel(level, one)
			second, _, _ := forwardModel(other, two)
			third, _ := inverseModel(level, two)
			a, b, c := filter.New(level), filter.New(other), filter.New(level)
			for i := range one {
				x, y, z := a.Forward(one[i]), b.Forward(two[i]), c.Inverse(two[i])
				if x != first[i] || y != second[i] || z != third[i] {
					t.Fatalf("levels %d and %d, number %d: %d, %d, %d, not %d, %d, %d", level, other, i, x, y, z, first[i], second[i], third[i])
				}
			}
		}
	}
}

// A chain goes on where it was; each call of a row begins anew.
func TestPieces(t *testing.T) {
	r := numbers(17193)
	l := waves(15000, 700, 17194)
	for level := range 3 {
		whole, e := filter.Forward(level, l)
		c, d := filter.New(level), filter.New(level)
		var rests, back []int
		for len(rests) < len(l) {
			piece := l[len(rests):][:min(r.below(50), len(l)-len(rests))]
			for _, x := range piece {
				rests = append(rests, c.Forward(x))
			}
			isForward(t, level, piece)
		}
		isList(t, "Forward in pieces", rests, e, whole, api.OK)
		for _, x := range whole {
			back = append(back, d.Inverse(x))
		}
		isList(t, "Inverse in pieces", back, e, l, api.OK)
		for _, cut := range []int{1, 16, 17, 300} {
			begin, e := filter.Forward(level, l[:cut])
			isList(t, "Forward of a beginning", begin, e, whole[:cut], api.OK)
			end, e := filter.Forward(level, l[cut:])
			want, _, _ := forwardModel(level, l[cut:])
			isList(t, "Forward of an end", end, e, want, api.OK)
		}
	}
}

// One wrong number in what a chain told: all ahead of it come back, it comes back as wrong as it is, and behind it a chain is astray.
func TestSpoiltNumber(t *testing.T) {
	l := waves(15000, 700, 17195)
	for level := range 3 {
		for _, at := range []int{0, 1, 350, 699} {
			for _, by := range []int{1, -1, 1000, 1 << 31} {
				rests, _ := filter.Forward(level, l)
				rests[at] = modulo(rests[at]+by, 32)
				back, e := filter.Inverse(level, rests)
				want := slices.Clone(l)
				want[at] = modulo(want[at]+by, 32)
				isList(t, "what is ahead of it, and it", back[:at+1], e, want[:at+1], api.OK)
				if level == 0 {
					isList(t, "what is behind it", back, e, want, api.OK)
				} else if at < 600 && slices.Equal(back[at+1:], l[at+1:]) {
					t.Fatalf("level %d, number %d, by %d: nothing behind it is wrong", level, at, by)
				}
				isInverse(t, level, rests)
			}
		}
	}
}
