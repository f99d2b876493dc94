package pcm_test

import (
	"fmt"
	"math"
	"slices"
	"testing"

	"lacquer/api"
	"lacquer/pcm"
)

// Promise 5.1.

func TestWhatMayBe(t *testing.T) {
	rates := map[int]bool{math.MinInt: false, -1: false, 0: false, 1: true, 2: true, 44100: true, api.MaxRate - 1: true, api.MaxRate: true, api.MaxRate + 1: false, math.MaxInt: false}
	for rate, may := range rates {
		p := quiet(2, 16, 3)
		p.Rate = rate
		check(t, fmt.Sprint("rate ", rate), p, wanted(may))
	}
	channels := map[int]bool{0: false, 1: true, 2: true, 7: true, 8: true, 9: false, 300: false}
	for n, may := range channels {
		check(t, fmt.Sprint(n, " channels"), quiet(n, 16, 3), wanted(may))
		check(t, fmt.Sprint(n, " channels of no samples"), quiet(n, 16, 0), wanted(may))
	}
	ws := map[int]bool{math.MinInt: false, -8: false, -1: false, 0: false, 1: false, 3: false, 4: true, 8: true, 12: true, 16: true, 24: true, 31: true, 32: true, 33: false, 63: false, 64: false, 65: false, math.MaxInt: false}
	for width, may := range ws {
		check(t, fmt.Sprint("width ", width), quiet(2, width, 3), wanted(may))
		check(t, fmt.Sprint("width ", width, " of no samples"), quiet(2, width, 0), wanted(may))
	}
	check(t, "nothing", api.PCM{}, api.ErrPcm)
}

func wanted(may bool) api.Errno {
	if may {
		return api.OK
	}
	return api.ErrPcm
}

func TestCountsOfPlanes(t *testing.T) {
	for _, channels := range []int{math.MinInt, -1, 0, 1, 2, 3, 7, 8, 9, math.MaxInt} {
		for planes := range 11 {
			p := quiet(planes, 16, 2)
			p.Channels = channels
			check(t, fmt.Sprint(planes, " planes of ", channels, " channels"), p, wanted(planes == channels && planes >= 1 && planes <= 8))
			p.Planes = make([][]int, planes)
			check(t, fmt.Sprint(planes, " planes of no samples, of ", channels, " channels"), p, wanted(planes == channels && planes >= 1 && planes <= 8))
		}
	}
}

func TestLengthsOfPlanes(t *testing.T) {
	for _, lengths := range [][]int{{0, 1}, {1, 0}, {2, 1}, {3, 3, 2}, {3, 2, 3}, {2, 3, 3}, {0, 0, 0, 0, 0, 0, 0, 1}, {1, 0, 0, 0, 0, 0, 0, 0}, {5, 5, 5, 5, 0, 5, 5, 5}} {
		p := quiet(len(lengths), 16, 0)
		for i, n := range lengths {
			p.Planes[i] = make([]int, n)
		}
		check(t, fmt.Sprint("lengths ", lengths), p, api.ErrPcm)
	}
	// A list that is empty is the same, be it nil or not.
	p := quiet(3, 16, 0)
	p.Planes[1] = nil
	check(t, "planes of no samples", p, api.OK)
}

func TestSamplesAtTheEnds(t *testing.T) {
	for _, width := range widths() {
		check(t, fmt.Sprint("edges of width ", width), one(width, edges(width)...), api.OK)
		for _, v := range []int{low(width) - 1, high(width) + 1, 2 * low(width), -2 * low(width), math.MinInt, math.MaxInt, 1 << 32, 1 << 62, -1 << 62} {
			check(t, fmt.Sprint(v, " of width ", width), one(width, v), api.ErrPcm)
		}
	}
}

func TestOneWrongSample(t *testing.T) {
	r := numbers(511)
	for _, width := range []int{4, 8, 12, 16, 24, 32} {
		for channel := range 3 {
			for at := range 5 {
				for _, v := range []int{low(width) - 1, high(width) + 1} {
					p := r.pcm(3, width, 5)
					check(t, "samples", p, api.OK)
					p.Planes[channel][at] = v
					check(t, fmt.Sprint(v, " of width ", width), p, api.ErrPcm)
				}
			}
		}
	}
}

func TestLengthsAtTheLimit(t *testing.T) {
	for _, channels := range []int{1, 2, 8} {
		check(t, fmt.Sprint("MaxSamples of ", channels), quiet(channels, 16, api.MaxSamples), api.OK)
		check(t, fmt.Sprint("one more of ", channels), quiet(channels, 16, api.MaxSamples+1), api.ErrLarge)
	}
	check(t, "twice as many", quiet(1, 4, 2*api.MaxSamples), api.ErrLarge)
}

// What may not be for another reason is told as such, however long its planes are.
func TestWrongAndTooLong(t *testing.T) {
	const long = api.MaxSamples + 1
	spoil := []func(p *api.PCM){
		func(p *api.PCM) { p.Rate = 0 },
		func(p *api.PCM) { p.Rate = api.MaxRate + 1 },
		func(p *api.PCM) { p.Channels = 0 },
		func(p *api.PCM) { p.Channels = 1 },
		func(p *api.PCM) { p.Channels = 3 },
		func(p *api.PCM) { p.Channels = 9 },
		func(p *api.PCM) { p.Width = 3 },
		func(p *api.PCM) { p.Width = 33 },
		func(p *api.PCM) { p.Planes = p.Planes[:1] },
		func(p *api.PCM) { p.Planes = append(p.Planes, make([]int, long)) },
		func(p *api.PCM) { p.Planes[0] = p.Planes[0][:api.MaxSamples] },
		func(p *api.PCM) { p.Planes[1] = p.Planes[1][:api.MaxSamples] },
		func(p *api.PCM) { p.Planes[0] = nil },
		func(p *api.PCM) { p.Planes[1] = nil },
		func(p *api.PCM) { p.Planes[1] = make([]int, long+1) },
		func(p *api.PCM) { p.Planes[0][0] = 1 << 15 },
		func(p *api.PCM) { p.Planes[0][long-1] = 1 << 15 },
		func(p *api.PCM) { p.Planes[1][long-1] = -1<<15 - 1 },
		func(p *api.PCM) { p.Planes[1][api.MaxSamples-1] = math.MaxInt },
	}
	for i, do := range spoil {
		p := quiet(2, 16, long)
		do(&p)
		if got := pcm.Check(p); got != api.ErrPcm {
			t.Errorf("way %d: %d", i, got)
		}
		if got := pcm.Fits(api.FormatFlac, p); got != api.ErrPcm {
			t.Errorf("Fits, way %d: %d", i, got)
		}
	}
}

func TestFits(t *testing.T) {
	for format := 1; format <= 5; format++ {
		for _, width := range widths() {
			want := api.ErrUnfit
			if slices.Contains(widthsOf(format), width) {
				want = api.OK
			}
			for _, p := range []api.PCM{one(width), one(width, edges(width)...), quiet(8, width, 2)} {
				if got := pcm.Fits(format, p); got != want {
					t.Errorf("Fits(%d) of width %d: %d, not %d", format, width, got, want)
				}
			}
		}
	}
	if pcm.Fits(api.FormatFlac, one(32)) != api.ErrUnfit {
		t.Error("the chapter's example")
	}
}

func TestErrorsOfFitsInOrder(t *testing.T) {
	large := quiet(1, 32, api.MaxSamples+1)
	for _, format := range []int{math.MinInt, -1, api.FormatNone, 6, 7, 9, 256, math.MaxInt} {
		for _, p := range []api.PCM{{}, one(16, 1), one(33), one(5), large} {
			if got := pcm.Fits(format, p); got != api.ErrArg {
				t.Errorf("Fits(%d): %d", format, got)
			}
		}
	}
	for format := 1; format <= 5; format++ {
		if got := pcm.Fits(format, one(3)); got != api.ErrPcm {
			t.Errorf("Fits(%d) of width 3: %d", format, got)
		}
		if got := pcm.Fits(format, one(33)); got != api.ErrPcm {
			t.Errorf("Fits(%d) of width 33: %d", format, got)
		}
		if got := pcm.Fits(format, one(5, 16)); got != api.ErrPcm {
			t.Errorf("Fits(%d) of a wrong sample: %d", format, got)
		}
		if got := pcm.Fits(format, large); got != api.ErrLarge {
			t.Errorf("Fits(%d) of too many samples: %d", format, got)
		}
	}
}

func TestSame(t *testing.T) {
	r := numbers(512)
	for range 300 {
		p := r.any(20)
		same(t, p, copied(p), true)
		same(t, p, p, true)
		for _, q := range others(p) {
			same(t, p, q, false)
		}
		q := r.any(20)
		same(t, p, q, like(p, q))
	}
}

// others are PCMs that differ from p in one thing.
func others(p api.PCM) []api.PCM {
	var l []api.PCM
	add := func(do func(q *api.PCM)) {
		q := copied(p)
		do(&q)
		l = append(l, q)
	}
	add(func(q *api.PCM) { q.Rate++ })
	add(func(q *api.PCM) { q.Channels++ })
	add(func(q *api.PCM) { q.Width++ })
	add(func(q *api.PCM) { q.Planes = q.Planes[:len(q.Planes)-1] })
	add(func(q *api.PCM) { q.Planes = append(q.Planes, nil) })
	for i, plane := range p.Planes {
		add(func(q *api.PCM) { q.Planes[i] = append(q.Planes[i], 0) })
		if len(plane) == 0 {
			continue
		}
		add(func(q *api.PCM) { q.Planes[i] = q.Planes[i][1:] })
		add(func(q *api.PCM) { q.Planes[i][0]++ })
		add(func(q *api.PCM) { q.Planes[i][len(plane)-1]-- })
		add(func(q *api.PCM) { q.Planes[i][len(plane)/2] ^= 1 })
	}
	return l
}

// same fails, unless Same of a and b, both ways round, is what is wanted.
func same(t *testing.T, a, b api.PCM, want bool) {
	t.Helper()
	if pcm.Same(a, b) != want || pcm.Same(b, a) != want {
		t.Fatalf("Same(%v, %v): not %v", told(a), told(b), want)
	}
}

// Same asks what is there, not what may be.
func TestSameOfWhatMayNotBe(t *testing.T) {
	same(t, api.PCM{}, api.PCM{}, true)
	same(t, api.PCM{}, api.PCM{Planes: [][]int{}}, true)
	same(t, api.PCM{}, api.PCM{Planes: [][]int{nil}}, false)
	same(t, api.PCM{Planes: [][]int{{}}}, api.PCM{Planes: [][]int{nil}}, true)
	same(t, api.PCM{Planes: [][]int{{}, {1}}}, api.PCM{Planes: [][]int{nil, {1}}}, true)
	same(t, api.PCM{Planes: [][]int{{}, {1}}}, api.PCM{Planes: [][]int{{1}, {}}}, false)
	same(t, api.PCM{Planes: [][]int{{1, 2}, {3}}}, api.PCM{Planes: [][]int{{1, 2}, {3}}}, true)
	same(t, api.PCM{Planes: [][]int{{1, 2}, {3}}}, api.PCM{Planes: [][]int{{1}, {2, 3}}}, false)
	same(t, api.PCM{Rate: -1, Channels: 9, Width: 99}, api.PCM{Rate: -1, Channels: 9, Width: 99}, true)
	same(t, api.PCM{Rate: 1, Channels: 2}, api.PCM{Rate: 2, Channels: 1}, false)
	same(t, one(16), one(16, 0), false)
	long := quiet(1, 16, api.MaxSamples+1)
	same(t, long, quiet(1, 16, api.MaxSamples+1), true)
	same(t, long, quiet(1, 16, api.MaxSamples+2), false)
}

func TestLen(t *testing.T) {
	for _, c := range []struct {
		p    api.PCM
		want int
	}{
		{api.PCM{}, 0},
		{api.PCM{Channels: 2}, 0},
		{api.PCM{Planes: [][]int{}}, 0},
		{api.PCM{Planes: [][]int{nil}}, 0},
		{api.PCM{Planes: [][]int{{7}}}, 1},
		{api.PCM{Planes: [][]int{{7}, {7, 8}}}, 1},
		{api.PCM{Planes: [][]int{{7, 8}, {7}}}, 2},
		{api.PCM{Planes: [][]int{{}, {7}}}, 0},
		{api.PCM{Channels: 1, Planes: [][]int{{1, 2, 3}, nil, nil}}, 3},
		{one(16), 0},
		{one(16, 1, 2, 3), 3},
		{quiet(8, 24, 1000), 1000},
		{quiet(1, 8, api.MaxSamples), api.MaxSamples},
		{quiet(1, 8, api.MaxSamples+1), api.MaxSamples + 1},
	} {
		if got := pcm.Len(c.p); got != c.want {
			t.Errorf("Len of %v: %d, not %d", told(c.p), got, c.want)
		}
	}
}

// Many PCMs, most of them spoilt in one thing or in two, against the chapter's words.
func TestManyPcms(t *testing.T) {
	r := numbers(513)
	seen := map[api.Errno]int{}
	for range 3000 {
		p := r.any(8)
		for range r.below(3) {
			r.spoil(&p)
		}
		want := checkModel(p)
		seen[want]++
		check(t, fmt.Sprint(p), p, want)
		for format := -1; format < 8; format++ {
			if got, want := pcm.Fits(format, p), fitsModel(format, p); got != want {
				t.Fatalf("Fits(%d, %v): %d, not %d", format, p, got, want)
			}
		}
	}
	if seen[api.OK] < 300 || seen[api.ErrPcm] < 300 {
		t.Errorf("too much of one kind: %v", seen)
	}
}

// spoil changes one thing of p, which may be wrong behind that.
func (r *numbers) spoil(p *api.PCM) {
	switch r.below(6) {
	case 0:
		p.Rate = []int{-1, 0, 1, api.MaxRate, api.MaxRate + 1}[r.below(5)]
	case 1:
		p.Channels = r.below(11) - 1
	case 2:
		p.Width = r.below(36)
	case 3:
		p.Planes = append(p.Planes, make([]int, r.below(3)))
	case 4:
		if len(p.Planes) > 0 {
			p.Planes = p.Planes[1:]
		}
	default:
		if len(p.Planes) > 0 && len(p.Planes[0]) > 0 {
			p.Planes[0][0] = []int{-1 << 31, 1<<31 - 1, 1 << 31, 128, -129}[r.below(5)]
		}
	}
}
