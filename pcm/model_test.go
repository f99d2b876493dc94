package pcm_test

import (
	"math/big"
	"slices"
	"testing"

	"lacquer/api"
	"lacquer/pcm"
)

// The tests hold the package against the chapter's words spelt out on big numbers, sample by sample.

// power is 2^n.
func power(n int) *big.Int {
	return new(big.Int).Lsh(big.NewInt(1), uint(n))
}

// isSample says whether n is a sample of the width.
func isSample(n *big.Int, width int) bool {
	end := power(width - 1)
	return n.Cmp(end) < 0 && n.Cmp(new(big.Int).Neg(end)) >= 0
}

// checkModel is Check's answer in the order of the chapter's words.
func checkModel(p api.PCM) api.Errno {
	if p.Rate < 1 || p.Rate > 655350 || p.Channels < 1 || p.Channels > 8 || p.Width < 4 || p.Width > 32 || len(p.Planes) != p.Channels {
		return api.ErrPcm
	}
	long := false
	for _, plane := range p.Planes {
		if len(plane) != len(p.Planes[0]) {
			return api.ErrPcm
		}
		long = long || len(plane) > 1<<20
		for _, v := range plane {
			if !isSample(big.NewInt(int64(v)), p.Width) {
				return api.ErrPcm
			}
		}
	}
	if long {
		return api.ErrLarge
	}
	return api.OK
}

// widthsOf are the widths that a format has.
func widthsOf(format int) []int {
	switch format {
	case api.FormatWave, api.FormatAiff:
		return []int{8, 16, 24, 32}
	case api.FormatFlac, api.FormatOgg:
		return []int{4, 5, 6, 7, 8, 9, 10, 11, 12, 13, 14, 15, 16, 17, 18, 19, 20, 21, 22, 23, 24}
	case api.FormatDisc:
		return []int{8, 9, 10, 11, 12, 13, 14, 15, 16, 17, 18, 19, 20, 21, 22, 23, 24}
	}
	return nil
}

func fitsModel(format int, p api.PCM) api.Errno {
	if widthsOf(format) == nil {
		return api.ErrArg
	}
	if e := checkModel(p); e != api.OK {
		return e
	}
	if !slices.Contains(widthsOf(format), p.Width) {
		return api.ErrUnfit
	}
	return api.OK
}

// sizeOf is how many bytes a width needs.
func sizeOf(width int) int {
	switch {
	case width <= 8:
		return 1
	case width <= 16:
		return 2
	case width <= 24:
		return 3
	}
	return 4
}

// bytesOf is a sample's bytes.
func bytesOf(v, width int, how api.Layout) []byte {
	n := big.NewInt(int64(v))
	if how.Unsigned {
		n.Add(n, power(width-1))
	} else if n.Sign() < 0 {
		n.Add(n, power(8*sizeOf(width)))
	}
	b := n.FillBytes(make([]byte, sizeOf(width)))
	if !how.Big {
		slices.Reverse(b)
	}
	return b
}

// numberOf is what a sample's bytes say; false, if that is no sample of the width.
func numberOf(s string, width int, how api.Layout) (int, bool) {
	b := []byte(s)
	if !how.Big {
		slices.Reverse(b)
	}
	n := new(big.Int).SetBytes(b)
	if how.Unsigned {
		n.Sub(n, power(width-1))
	} else if b[0] >= 128 {
		n.Sub(n, power(8*len(b)))
	}
	return int(n.Int64()), isSample(n, width)
}

func packModel(p api.PCM, how api.Layout) (string, api.Errno) {
	if e := checkModel(p); e != api.OK {
		return "", e
	}
	var s []byte
	for i := range p.Planes[0] {
		for c := range p.Channels {
			s = append(s, bytesOf(p.Planes[c][i], p.Width, how)...)
		}
	}
	return string(s), api.OK
}

func unpackModel(s string, rate, channels, width int, how api.Layout) (api.PCM, api.Errno) {
	if rate < 1 || rate > 655350 || channels < 1 || channels > 8 || width < 4 || width > 32 {
		return api.PCM{}, api.ErrPcm
	}
	size := sizeOf(width)
	if len(s)%(channels*size) != 0 {
		return api.PCM{}, api.ErrMalformed
	}
	if len(s)/(channels*size) > 1<<20 {
		return api.PCM{}, api.ErrLarge
	}
	p := api.PCM{Rate: rate, Channels: channels, Width: width, Planes: make([][]int, channels)}
	for i := 0; i < len(s); i += size {
		n, ok := numberOf(s[i:i+size], width, how)
		if !ok {
			return api.PCM{}, api.ErrMalformed
		}
		c := i / size % channels
		p.Planes[c] = append(p.Planes[c], n)
	}
	return p, api.OK
}

// like says whether a and b are the same, an empty list the same as none.
func like(a, b api.PCM) bool {
	if a.Rate != b.Rate || a.Channels != b.Channels || a.Width != b.Width || len(a.Planes) != len(b.Planes) {
		return false
	}
	for i := range a.Planes {
		if len(a.Planes[i]) != len(b.Planes[i]) {
			return false
		}
		for j, v := range a.Planes[i] {
			if b.Planes[i][j] != v {
				return false
			}
		}
	}
	return true
}

// told is an answer of a PCM short enough to be printed.
func told(p api.PCM) any {
	for _, plane := range p.Planes {
		if len(plane) > 20 {
			return []int{p.Rate, p.Channels, p.Width, len(p.Planes), len(plane)}
		}
	}
	return p
}

// isZero says whether p says nothing, as it must beside an error.
func isZero(p api.PCM) bool {
	return p.Rate == 0 && p.Channels == 0 && p.Width == 0 && len(p.Planes) == 0
}

// answers fails, unless a call answered this PCM, or this error and nothing beside it.
func answers(t *testing.T, what string, got api.PCM, e api.Errno, want api.PCM, wanted api.Errno) {
	t.Helper()
	if e != wanted {
		t.Fatalf("%s: error %d, not %d", what, e, wanted)
	}
	if e != api.OK && !isZero(got) {
		t.Fatalf("%s: %v beside error %d", what, told(got), e)
	}
	if e == api.OK && !like(got, want) {
		t.Fatalf("%s: %v, not %v", what, told(got), told(want))
	}
}

// texts fails, unless a call answered this text, or this error and nothing beside it.
func texts(t *testing.T, what string, got string, e api.Errno, want string, wanted api.Errno) {
	t.Helper()
	if e != wanted || e != api.OK && got != "" {
		t.Fatalf("%s: %d bytes and error %d, not %d", what, len(got), e, wanted)
	}
	if got != want {
		t.Fatalf("%s: % x, not % x", what, got[:min(len(got), 40)], want[:min(len(want), 40)])
	}
}

// check fails, unless Check, and Fits, Pack, Slice, Join and Digest of p, answer this error.
func check(t *testing.T, what string, p api.PCM, want api.Errno) {
	t.Helper()
	if got := pcm.Check(p); got != want {
		t.Fatalf("Check of %s: %d, not %d", what, got, want)
	}
	if want == api.OK {
		return
	}
	for _, format := range []int{1, 2, 3, 4, 5} {
		if got := pcm.Fits(format, p); got != want {
			t.Fatalf("Fits(%d) of %s: %d, not %d", format, what, got, want)
		}
	}
	for _, how := range layouts() {
		s, e := pcm.Pack(p, how)
		texts(t, "Pack of "+what, s, e, "", want)
	}
	q, e := pcm.Slice(p, 0, 0)
	answers(t, "Slice of "+what, q, e, api.PCM{}, want)
	q, e = pcm.Slice(p, 1, -1)
	answers(t, "Slice of "+what, q, e, api.PCM{}, want)
	q, e = pcm.Join([]api.PCM{p})
	answers(t, "Join of "+what, q, e, api.PCM{}, want)
	s, e := pcm.Digest(p)
	texts(t, "Digest of "+what, s, e, "", want)
}

// one is a PCM of one channel.
func one(width int, plane ...int) api.PCM {
	return api.PCM{Rate: 8000, Channels: 1, Width: width, Planes: [][]int{plane}}
}

// quiet is a PCM of so many channels and samples, each 0.
func quiet(channels, width, length int) api.PCM {
	p := api.PCM{Rate: 44100, Channels: channels, Width: width}
	for range channels {
		p.Planes = append(p.Planes, make([]int, length))
	}
	return p
}

// copied is p in memory of its own.
func copied(p api.PCM) api.PCM {
	q := p
	q.Planes = nil
	for _, plane := range p.Planes {
		q.Planes = append(q.Planes, append([]int{}, plane...))
	}
	return q
}

func layouts() []api.Layout {
	return []api.Layout{{}, {Big: true}, {Unsigned: true}, {Big: true, Unsigned: true}}
}

// widths are all that may be.
func widths() []int {
	var l []int
	for w := 4; w <= 32; w++ {
		l = append(l, w)
	}
	return l
}

// low and high are the ends of a width's samples.
func low(width int) int  { return -1 << (width - 1) }
func high(width int) int { return 1<<(width-1) - 1 }

// edges are samples of a width at its ends and about 0.
func edges(width int) []int {
	return []int{low(width), low(width) + 1, -2, -1, 0, 1, 2, high(width) - 1, high(width)}
}

// numbers is a fixed row of numbers that look like chance (SplitMix64).
type numbers uint64

func (r *numbers) next() uint64 {
	*r += 0x9e3779b97f4a7c15
	x := uint64(*r)
	x = (x ^ x>>30) * 0xbf58476d1ce4e5b9
	x = (x ^ x>>27) * 0x94d049bb133111eb
	return x ^ x>>31
}

func (r *numbers) below(n int) int { return int(r.next() % uint64(n)) }

// text is count bytes.
func (r *numbers) text(count int) string {
	s := make([]byte, count)
	for i := range s {
		s[i] = byte(r.next())
	}
	return string(s)
}

// sample is one of a width, of all sizes, now and then at an end.
func (r *numbers) sample(width int) int {
	if r.below(8) == 0 {
		return edges(width)[r.below(9)]
	}
	return int(int64(r.next()) >> (64 - width) >> r.below(width))
}

// pcm is one that may be.
func (r *numbers) pcm(channels, width, length int) api.PCM {
	p := quiet(channels, width, length)
	p.Rate = 1 + r.below(api.MaxRate)
	for _, plane := range p.Planes {
		for i := range plane {
			plane[i] = r.sample(width)
		}
	}
	return p
}

// any is a PCM that may be, of up to length samples.
func (r *numbers) any(length int) api.PCM {
	return r.pcm(1+r.below(8), 4+r.below(29), r.below(length+1))
}

// places are places in a row of so many, from its beginning to its end, in order.
func (r *numbers) places(length, count int) []int {
	l := []int{0, length}
	for range count {
		l = append(l, r.below(length+1))
	}
	slices.Sort(l)
	return l
}
