package rice_test

import (
	"slices"
	"testing"

	"lacquer/api"
	"lacquer/bits"
	"lacquer/rice"
)

// Rule R4, of all calls: what is handed in is left as it was, also behind the ends of lists, and what is handed out is new.

// roomy is l with numbers behind its end.
func roomy(l []int) []int {
	more := append(slices.Clone(l), 777, -778, 779)
	return more[:len(l):len(more)]
}

// spoil writes over all that lies in the memory of the lists.
func spoil(lists ...[]int) {
	for _, l := range lists {
		l = l[:cap(l)]
		for i := range l {
			l[i] = -99999
		}
	}
}

func TestWhatIsHandedInIsLeft(t *testing.T) {
	r := numbers(841)
	for range 500 {
		s := r.sample()
		s.list = roomy(s.list)
		s.rice.Params, s.rice.Escapes = roomy(s.rice.Params), roomy(s.rice.Escapes)
		lists := [][]int{s.list, s.rice.Params, s.rice.Escapes}
		var were [][]int
		for _, l := range lists {
			were = append(were, slices.Clone(l[:cap(l)]))
		}
		rice.Check(s.rice, s.block, s.order)
		rice.Check(s.rice, s.block+1, s.order)
		if e := rice.Encode(bits.New(), s.rice, s.block, s.order, s.list); e != api.OK {
			t.Fatal(e)
		}
		rice.Encode(bits.New(), s.rice, s.block, s.order+1, s.list)
		rice.Cost(s.list, 7)
		rice.Best(s.block, s.order, s.list)
		for i, l := range lists {
			if !slices.Equal(l[:cap(l)], were[i]) {
				t.Fatalf("%s became %s", short(were[i]), short(l[:cap(l)]))
			}
		}
	}
}

// What is done to an answer is not to be seen in another one, nor in what was handed in.
func TestWhatIsHandedOutIsNew(t *testing.T) {
	r := numbers(842)
	for range 500 {
		s := r.sample()
		d, _ := encodeModel(s.rice, s.block, s.order, s.list)
		x := bits.Of(packed(d))
		l, q, _ := rice.Decode(x, s.block, s.order)
		spoil(l, q.Params, q.Escapes)
		isDecode(t, d, s)
		want, n := rice.Best(s.block, s.order, s.list)
		got, _ := rice.Best(s.block, s.order, s.list)
		spoil(got.Params, got.Escapes)
		isBest(t, s.block, s.order, s.list, want, n)
		w := bits.New()
		rice.Encode(w, s.rice, s.block, s.order, s.list)
		spoil(s.list, s.rice.Params, s.rice.Escapes)
		if w.Bytes() != packed(d) {
			t.Fatal("a writer hangs on what was handed in")
		}
	}
}

// Lists of one answer do not lie in one another, not even behind their ends.
func TestListsAreApart(t *testing.T) {
	r := numbers(843)
	for range 500 {
		s := r.sample()
		d, _ := encodeModel(s.rice, s.block, s.order, s.list)
		for i := range 3 {
			l, q, _ := rice.Decode(bits.Of(packed(d)), s.block, s.order)
			lists := [][]int{l, q.Params, q.Escapes}
			were := [][]int{s.list, s.rice.Params, s.rice.Escapes}
			spoil(lists[i])
			for j := range 3 {
				if j != i && !slices.Equal(lists[j], were[j]) {
					t.Fatalf("list %d lies in list %d", j, i)
				}
			}
		}
		q, _ := rice.Best(s.block, s.order, s.list)
		params, escapes := slices.Clone(q.Params), slices.Clone(q.Escapes)
		spoil(q.Params)
		if !slices.Equal(q.Escapes, escapes) {
			t.Fatal("Escapes lie in Params")
		}
		q, _ = rice.Best(s.block, s.order, s.list)
		spoil(q.Escapes)
		if !slices.Equal(q.Params, params) {
			t.Fatal("Params lie in Escapes")
		}
	}
}

// The same arguments have the same answers, however often.
func TestTheSameAgain(t *testing.T) {
	r := numbers(844)
	s, other := r.sample(), r.sample()
	d, _ := encodeModel(s.rice, s.block, s.order, s.list)
	want, n := rice.Best(s.block, s.order, s.list)
	for range 3 {
		rice.Encode(bits.New(), other.rice, other.block, other.order, other.list)
		rice.Best(other.block, other.order, other.list)
		rice.Decode(bits.Of("\x80"), 4, 0)
		isEncode(t, s, d, api.OK)
		isDecode(t, d, s)
		isBest(t, s.block, s.order, s.list, want, n)
	}
}
