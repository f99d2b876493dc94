package rice_test

import (
	"slices"
	"testing"

	"lacquer/api"
	"lacquer/bits"
	"lacquer/rice"
)

// Promise 8.4.

func TestThereAndBack(t *testing.T) {
	r := numbers(831)
	for range 3000 {
		s := r.sample()
		w := bits.New()
		if e := rice.Encode(w, s.rice, s.block, s.order, s.list); e != api.OK {
			t.Fatalf("Encode(%s): error %d", short(s.rice), e)
		}
		x := bits.Of(w.Bytes())
		l, q, e := rice.Decode(x, s.block, s.order)
		if e != api.OK || !slices.Equal(l, s.list) || !sameRice(q, s.rice) || x.At() != w.Len() {
			t.Fatalf("%s, %s became %s, %s, error %d, at %d of %d", short(s.rice), short(s.list), short(q), short(l), e, x.At(), w.Len())
		}
	}
}

// Several, one behind the other, are read one behind the other.
func TestRows(t *testing.T) {
	r := numbers(832)
	var row []sample
	var ends []int
	w := bits.New()
	for range 100 {
		s := r.sample()
		rice.Encode(w, s.rice, s.block, s.order, s.list)
		// One that is refused leaves nothing between them.
		rice.Encode(w, s.rice, s.block+1, s.order, s.list)
		rice.Encode(w, api.Rice{}, s.block, s.order, s.list)
		row, ends = append(row, s), append(ends, w.Len())
	}
	x := bits.Of(w.Bytes())
	for i, s := range row {
		l, q, e := rice.Decode(x, s.block, s.order)
		if e != api.OK || !slices.Equal(l, s.list) || !sameRice(q, s.rice) || x.At() != ends[i] {
			t.Fatalf("%d: error %d, at %d, not %d", i, e, x.At(), ends[i])
		}
	}
}

// The greatest block with the most partitions, and all Orders with either method.
func TestGreatBlocksThereAndBack(t *testing.T) {
	r := numbers(833)
	for _, block := range []int{65535, 65534, 65520, 65280, 49152, 32768, 4608, 4096} {
		for power := range 16 {
			for _, order := range []int{0, 1, 12, 32} {
				parts := sizes(block, order, power)
				if parts == nil {
					continue
				}
				s := sample{rice: api.Rice{Method: power % 2, Order: power}, block: block, order: order}
				for i := range parts {
					s.rice.Params = append(s.rice.Params, []int{3, 0}[i%2])
					s.rice.Escapes = append(s.rice.Escapes, []int{-1, 7}[i%2])
				}
				for range block - order {
					s.list = append(s.list, r.signed(7))
				}
				w := bits.New()
				e := rice.Encode(w, s.rice, block, order, s.list)
				l, q, f := rice.Decode(bits.Of(w.Bytes()), block, order)
				if e != api.OK || f != api.OK || !slices.Equal(l, s.list) || !sameRice(q, s.rice) {
					t.Fatalf("%d, %d, %d: errors %d, %d", block, order, power, e, f)
				}
			}
		}
	}
}

// Best's bits are 6, and of each partition 4 and its Cost; and as many as Encode writes.
func TestBitsOfBest(t *testing.T) {
	r := numbers(834)
	for range 1000 {
		s := r.sample()
		q, n := rice.Best(s.block, s.order, s.list)
		w := bits.New()
		e := rice.Encode(w, q, s.block, s.order, s.list)
		sum, rest := 6, s.list
		for i, size := range sizes(s.block, s.order, q.Order) {
			sum += 4 + rice.Cost(rest[:size], q.Params[i])
			rest = rest[size:]
		}
		if e != api.OK || n != sum || w.Len() != n {
			t.Fatalf("Best(%d, %d, %s): %d; %d of its parts; Encode: error %d, %d bits", s.block, s.order, short(s.list), n, sum, e, w.Len())
		}
	}
}

// FuzzDecode looks for a text that is told wrongly, or that does not come back.
func FuzzDecode(f *testing.F) {
	f.Add("\x00\x0b\x10\x80", 4, 0)
	f.Add("\x03\xc0", 3, 0)
	f.Add("\x47\xc8\xff\xff\xff\xff\xff", 16, 3)
	f.Add("\x05\xff\xff\x12\x34\x56\x78\x9a", 8, 4)
	f.Fuzz(func(t *testing.T, s string, block, order int) {
		if block < 1 || block > 65535 || order < 0 || order > 32 || order > block {
			isNoDecode(t, bits.Of(s), block, order, api.ErrArg)
			return
		}
		isDecodeAsModel(t, s, block, order)
		l, r, e := rice.Decode(bits.Of(s), block, order)
		if e != api.OK {
			return
		}
		w := bits.New()
		if e := rice.Encode(w, r, block, order, l); e != api.OK || digitsOf(s)[:w.Len()] != digitsOf(w.Bytes())[:w.Len()] {
			t.Fatalf("error %d, %.80s", e, digitsOf(w.Bytes()))
		}
		if len(l) < 200 {
			isBestAsModel(t, block, order, l)
		}
	})
}
