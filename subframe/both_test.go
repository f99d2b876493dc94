package subframe_test

import (
	"slices"
	"testing"

	"lacquer/api"
	"lacquer/bits"
	"lacquer/subframe"
)

// Promise 10.3.

func TestThereAndBack(t *testing.T) {
	r := numbers(1041)
	for range 5000 {
		s := r.sample()
		w := bits.New()
		if e := subframe.Encode(w, s.sub, s.width, s.list); e != api.OK {
			t.Fatalf("Encode(%s): error %d", short(s.sub), e)
		}
		x := bits.Of(w.Bytes())
		l, q, e := subframe.Decode(x, len(s.list), s.width)
		if e != api.OK || !slices.Equal(l, s.list) || !sameSub(q, s.sub) || x.At() != w.Len() {
			t.Fatalf("%s, %s became %s, %s, error %d, at %d of %d", short(s.sub), short(s.list), short(q), short(l), e, x.At(), w.Len())
		}
	}
}

// Several, one behind the other, are read one behind the other.
func TestRows(t *testing.T) {
	r := numbers(1042)
	var row []sample
	var ends []int
	w := bits.New()
	for range 200 {
		s := r.sample()
		subframe.Encode(w, s.sub, s.width, s.list)
		// One that is refused leaves nothing between them.
		subframe.Encode(w, s.sub, 34, s.list)
		subframe.Encode(w, fixed(0, escaped(1)), s.width, []int{0, -1, 1})
		row, ends = append(row, s), append(ends, w.Len())
	}
	x := bits.Of(w.Bytes())
	for i, s := range row {
		l, q, e := subframe.Decode(x, len(s.list), s.width)
		if e != api.OK || !slices.Equal(l, s.list) || !sameSub(q, s.sub) || x.At() != ends[i] {
			t.Fatalf("%d: error %d, at %d, not %d", i, e, x.At(), ends[i])
		}
	}
}

// The greatest blocks and widths of each Kind.
func TestGreatBlocksThereAndBack(t *testing.T) {
	r := numbers(1043)
	for _, block := range []int{65535, 65520, 32768, 4608} {
		for _, wasted := range []int{0, 1, 17} {
			l := make([]int, block)
			for i := range l {
				l[i] = r.signed(33-wasted) << wasted
			}
			wide := api.Rice{Method: 1, Params: []int{30}, Escapes: []int{-1}}
			for _, s := range []api.Sub{{Kind: api.SubVerbatim}, fixed(0, wide), fixed(4, wide), lpc(15, 15, wide, 16383, -16384, 1)} {
				isThereAndBack(t, sample{wasting(s, wasted), 33, l})
			}
			isThereAndBack(t, sample{api.Sub{Wasted: wasted}, 33, slices.Repeat([]int{-1 << 32}, block)})
		}
	}
}

// isThereAndBack fails, unless what Encode writes is told by Decode.
func isThereAndBack(t *testing.T, s sample) {
	t.Helper()
	w := bits.New()
	e := subframe.Encode(w, s.sub, s.width, s.list)
	x := bits.Of(w.Bytes())
	l, q, f := subframe.Decode(x, len(s.list), s.width)
	if e != api.OK || f != api.OK || !slices.Equal(l, s.list) || !sameSub(q, s.sub) || x.At() != w.Len() {
		t.Fatalf("%s, %d, %s: errors %d, %d, at %d of %d", short(s.sub), s.width, short(s.list), e, f, x.At(), w.Len())
	}
}

// comesBack fails, unless what Decode tells of a text, if anything, is written with the same bits; it says whether there was something.
func comesBack(t *testing.T, s string, block, width int) bool {
	t.Helper()
	x := bits.Of(s)
	l, q, e := subframe.Decode(x, block, width)
	if e != api.OK {
		return false
	}
	if len(l) != block {
		t.Fatalf("%d samples, not %d", len(l), block)
	}
	isCheck(t, q, block, width, api.OK)
	w := bits.New()
	if e := subframe.Encode(w, q, width, l); e != api.OK || w.Len() != x.At() || digitsOf(w.Bytes())[:w.Len()] != digitsOf(s)[:w.Len()] {
		t.Fatalf("%.40q, %d, %d: %s, %s: error %d, %s", s, block, width, short(q), short(l), e, short(digitsOf(w.Bytes())))
	}
	return true
}

// What Decode tells of made up texts is written again with the same bits.
func TestBackAndThere(t *testing.T) {
	r := numbers(1044)
	var counts [4]int
	for range 60000 {
		s := make([]byte, 8+r.below(60))
		for i := range s {
			s[i] = byte(r.next()) & byte(r.next()>>(8*r.below(2)))
		}
		kind := r.below(4)
		s[0] = []byte{0, 2, byte(16 + 2*r.below(5)), byte(64 + 2*r.below(8))}[kind] + byte(r.below(2))
		if comesBack(t, string(s), 1+r.below(4)<<r.below(3), 1+r.below(33)) {
			counts[kind]++
		}
	}
	for kind, n := range counts {
		if n < 100 {
			t.Errorf("%d texts of kind %d alone were told", n, kind)
		}
	}
}

// FuzzDecode looks for a text that is told wrongly, or that does not come back.
func FuzzDecode(f *testing.F) {
	f.Add("\x00\x05", 16, 8)
	f.Add("\x01\x41", 3, 8)
	f.Add("\x02\x1f\x78", 4, 4)
	f.Add("\x12\x05\x00\x09\x00", 3, 8)
	r := numbers(1045)
	for kind := range 4 {
		for range 5 {
			s := r.sampleOf(kind)
			d, _ := encodeModel(s.sub, s.width, s.list)
			f.Add(packed(d), len(s.list), s.width)
		}
	}
	f.Fuzz(func(t *testing.T, s string, block, width int) {
		if block < 1 || block > 65535 || width < 1 || width > 33 {
			isNoDecode(t, bits.Of(s), block, width, api.ErrArg)
			return
		}
		isDecodeAsModel(t, s, 0, block, width)
		comesBack(t, s, block, width)
	})
}
