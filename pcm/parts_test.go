package pcm_test

import (
	"crypto/md5"
	"encoding/hex"
	"fmt"
	"math"
	"testing"

	"lacquer/api"
	"lacquer/pcm"
)

// Promise 5.3.

// part is the samples of p at places from one on up to another.
func part(p api.PCM, from, to int) api.PCM {
	q := p
	q.Planes = nil
	for _, plane := range p.Planes {
		var l []int
		for i := from; i < to; i++ {
			l = append(l, plane[i])
		}
		q.Planes = append(q.Planes, l)
	}
	return q
}

func TestSlice(t *testing.T) {
	r := numbers(531)
	for channels := 1; channels <= 8; channels++ {
		for _, length := range []int{0, 1, 2, 7} {
			p := r.pcm(channels, 4+r.below(29), length)
			for from := -2; from <= length+2; from++ {
				for to := -2; to <= length+2; to++ {
					what := fmt.Sprintf("Slice of %d at %d, %d", length, from, to)
					got, e := pcm.Slice(p, from, to)
					if from < 0 || from > to || to > length {
						answers(t, what, got, e, api.PCM{}, api.ErrArg)
					} else {
						answers(t, what, got, e, part(p, from, to), api.OK)
					}
				}
			}
		}
	}
}

func TestSliceAtPlacesThatAreNone(t *testing.T) {
	p := one(16, 1, 2, 3)
	ends := []int{math.MinInt, math.MinInt + 1, -1 << 32, -1, 4, 1 << 32, math.MaxInt - 1, math.MaxInt}
	for _, a := range ends {
		for _, b := range append(ends, 0, 1, 2, 3) {
			got, e := pcm.Slice(p, a, b)
			answers(t, fmt.Sprint("Slice at ", a, b), got, e, api.PCM{}, api.ErrArg)
			got, e = pcm.Slice(p, b, a)
			answers(t, fmt.Sprint("Slice at ", b, a), got, e, api.PCM{}, api.ErrArg)
		}
	}
	got, e := pcm.Slice(one(16), 0, 0)
	answers(t, "Slice of none", got, e, one(16), api.OK)
}

func TestSliceAtTheLimit(t *testing.T) {
	p := quiet(2, 16, api.MaxSamples)
	p.Planes[0][0], p.Planes[1][0] = 1, 2
	p.Planes[0][api.MaxSamples-1], p.Planes[1][api.MaxSamples-1] = 3, 4
	got, e := pcm.Slice(p, 0, api.MaxSamples)
	answers(t, "all", got, e, p, api.OK)
	got, e = pcm.Slice(p, 0, 1)
	answers(t, "the first", got, e, part(p, 0, 1), api.OK)
	got, e = pcm.Slice(p, api.MaxSamples-1, api.MaxSamples)
	answers(t, "the last", got, e, part(p, api.MaxSamples-1, api.MaxSamples), api.OK)
	got, e = pcm.Slice(p, api.MaxSamples, api.MaxSamples)
	answers(t, "none at the end", got, e, part(p, 0, 0), api.OK)
	got, e = pcm.Slice(p, 0, api.MaxSamples+1)
	answers(t, "one more", got, e, api.PCM{}, api.ErrArg)
	// What is too long is told ahead of a place, also where the part would not be.
	for _, at := range [][2]int{{0, 1}, {0, 0}, {1, 0}, {-1, 0}} {
		got, e = pcm.Slice(quiet(2, 16, api.MaxSamples+1), at[0], at[1])
		answers(t, "of too many", got, e, api.PCM{}, api.ErrLarge)
	}
}

func TestErrorsOfSliceInOrder(t *testing.T) {
	wrong := []api.PCM{{}, one(3), one(33), one(8, 128), quiet(9, 16, 1)}
	for _, p := range wrong {
		for _, at := range [][2]int{{0, 0}, {1, 0}, {-1, 0}, {0, math.MaxInt}} {
			got, e := pcm.Slice(p, at[0], at[1])
			answers(t, "Slice", got, e, api.PCM{}, api.ErrPcm)
		}
	}
}

// joins fails, unless Join answers this.
func joins(t *testing.T, what string, want api.PCM, wanted api.Errno, l ...api.PCM) {
	t.Helper()
	got, e := pcm.Join(l)
	answers(t, "Join of "+what, got, e, want, wanted)
}

func TestJoin(t *testing.T) {
	joins(t, "none", api.PCM{}, api.ErrParts)
	joins(t, "one", one(8, 1, 2), api.OK, one(8, 1, 2))
	joins(t, "one without samples", one(8), api.OK, one(8))
	joins(t, "two", one(8, 1, 2, 3), api.OK, one(8, 1, 2), one(8, 3))
	joins(t, "the same two the other way round", one(8, 3, 1, 2), api.OK, one(8, 3), one(8, 1, 2))
	joins(t, "empty ones between", one(8, 1, 2, 3), api.OK, one(8), one(8, 1), one(8), one(8), one(8, 2, 3), one(8))
	joins(t, "empty ones alone", one(8), api.OK, one(8), one(8), one(8))
	joins(t, "the same twice", one(8, 1, 2, 1, 2), api.OK, one(8, 1, 2), one(8, 1, 2))
	a := api.PCM{Rate: 5, Channels: 2, Width: 24, Planes: [][]int{{1, 2}, {3, 4}}}
	b := api.PCM{Rate: 5, Channels: 2, Width: 24, Planes: [][]int{{5}, {6}}}
	joins(t, "two channels", api.PCM{Rate: 5, Channels: 2, Width: 24, Planes: [][]int{{1, 2, 5}, {3, 4, 6}}}, api.OK, a, b)
	if _, e := pcm.Join([]api.PCM{}); e != api.ErrParts {
		t.Errorf("an empty list: %d", e)
	}
}

func TestPartsThatDiffer(t *testing.T) {
	p := quiet(2, 16, 3)
	rate, channels, width := p, quiet(3, 16, 3), quiet(2, 17, 3)
	rate.Rate++
	for _, q := range []api.PCM{rate, channels, width, quiet(1, 16, 0), quiet(2, 15, 0)} {
		joins(t, "two that differ", api.PCM{}, api.ErrParts, p, q)
		joins(t, "two that differ, turned", api.PCM{}, api.ErrParts, q, p)
		joins(t, "the last of three", api.PCM{}, api.ErrParts, p, p, q)
		joins(t, "the middle of three", api.PCM{}, api.ErrParts, p, q, p)
		joins(t, "two like each other, the first one not", api.PCM{}, api.ErrParts, p, q, q)
	}
}

func TestErrorsOfJoinInOrder(t *testing.T) {
	p, wrong, other := one(8, 1), one(8, 128), one(16, 1)
	large := quiet(1, 8, api.MaxSamples+1)
	large.Rate = 8000
	otherLarge := quiet(1, 16, api.MaxSamples+1)
	most := quiet(1, 8, api.MaxSamples)
	most.Rate = 8000
	joins(t, "a wrong one", api.PCM{}, api.ErrPcm, wrong)
	joins(t, "a wrong one behind", api.PCM{}, api.ErrPcm, p, wrong)
	joins(t, "a large one", api.PCM{}, api.ErrLarge, large)
	joins(t, "a large one behind", api.PCM{}, api.ErrLarge, p, large)
	joins(t, "wrong, then large", api.PCM{}, api.ErrPcm, p, wrong, large)
	joins(t, "large, then wrong", api.PCM{}, api.ErrLarge, p, large, wrong)
	joins(t, "other, then wrong", api.PCM{}, api.ErrParts, p, other, wrong)
	joins(t, "wrong, then other", api.PCM{}, api.ErrPcm, p, wrong, other)
	joins(t, "other, then large", api.PCM{}, api.ErrParts, p, other, large)
	joins(t, "large, then other", api.PCM{}, api.ErrLarge, p, large, other)
	joins(t, "other and large at once", api.PCM{}, api.ErrLarge, p, otherLarge)
	joins(t, "other and wrong at once", api.PCM{}, api.ErrPcm, p, one(16, 1<<15))
	joins(t, "of another kind that may not be", api.PCM{}, api.ErrPcm, p, api.PCM{})
	joins(t, "too many together, then wrong", api.PCM{}, api.ErrPcm, most, p, wrong)
	joins(t, "too many together, then other", api.PCM{}, api.ErrParts, most, p, other)
	joins(t, "too many together", api.PCM{}, api.ErrLarge, most, p)
}

func TestJoinAtTheLimit(t *testing.T) {
	half := quiet(2, 16, api.MaxSamples/2)
	for i := range half.Planes[0] {
		half.Planes[0][i], half.Planes[1][i] = i%1000, -i%1000
	}
	whole := quiet(2, 16, 0)
	for i, plane := range half.Planes {
		whole.Planes[i] = append(append([]int{}, plane...), plane...)
	}
	joins(t, "two halves", whole, api.OK, half, half)
	joins(t, "two halves and none", whole, api.OK, half, quiet(2, 16, 0), half, quiet(2, 16, 0))
	joins(t, "two halves and one", api.PCM{}, api.ErrLarge, half, half, quiet(2, 16, 1))
	joins(t, "one and two halves", api.PCM{}, api.ErrLarge, quiet(2, 16, 1), half, half)
	joins(t, "three halves", api.PCM{}, api.ErrLarge, half, half, half)
	joins(t, "the whole and none", whole, api.OK, whole, quiet(2, 16, 0))
}

func TestJoinOfMany(t *testing.T) {
	var l []api.PCM
	want := one(16)
	for i := range 5000 {
		l = append(l, one(16, i, -i))
		want.Planes[0] = append(want.Planes[0], i, -i)
	}
	joins(t, "many", want, api.OK, l...)
}

func TestDigest(t *testing.T) {
	r := numbers(532)
	for range 300 {
		p := r.any(30)
		s, _ := packModel(p, api.Layout{})
		sum := md5.Sum([]byte(s))
		got, e := pcm.Digest(p)
		texts(t, fmt.Sprint("Digest of ", told(p)), got, e, string(sum[:]), api.OK)
	}
	empty, e := pcm.Digest(one(16))
	if hex.EncodeToString([]byte(empty)) != "d41d8cd98f00b204e9800998ecf8427e" || e != api.OK {
		t.Errorf("of no samples: %x %d", empty, e)
	}
	abc, e := pcm.Digest(one(8, 'a', 'b', 'c'))
	if hex.EncodeToString([]byte(abc)) != "900150983cd24fb0d6963f7d28e17f72" || e != api.OK {
		t.Errorf("of abc: %x %d", abc, e)
	}
	// The lowest byte stands first.
	ab, _ := pcm.Digest(one(16, 'a'+'b'<<8))
	want := md5.Sum([]byte("ab"))
	if ab != string(want[:]) {
		t.Errorf("of ab: %x", ab)
	}
}

func TestDigestAtTheLimit(t *testing.T) {
	p := quiet(8, 24, api.MaxSamples)
	sum := md5.Sum(make([]byte, 24*api.MaxSamples))
	got, e := pcm.Digest(p)
	texts(t, "Digest", got, e, string(sum[:]), api.OK)
}
