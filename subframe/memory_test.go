package subframe_test

import (
	"slices"
	"testing"

	"lacquer/api"
	"lacquer/bits"
	"lacquer/subframe"
)

// Rule R4, of all calls: what is handed in is left as it was, also behind the ends of lists, and what is handed out is new.

// roomy is l with numbers behind its end.
func roomy(l []int) []int {
	more := append(slices.Clone(l), 777, -778, 779)
	return more[:len(l):len(more)]
}

// spoil writes over all that lies in the memory of the lists.
func spoil(lists ...[]int) {
	for _, l := range lists {
		l = l[:cap(l)]
		for i := range l {
			l[i] = -99999
		}
	}
}

// lists are all those of samples and a Sub.
func lists(l []int, s api.Sub) [][]int {
	return [][]int{l, s.Coefs, s.Rice.Params, s.Rice.Escapes}
}

func TestWhatIsHandedInIsLeft(t *testing.T) {
	r := numbers(1051)
	for range 1000 {
		s := r.sample()
		s.list, s.sub.Coefs = roomy(s.list), roomy(s.sub.Coefs)
		s.sub.Rice.Params, s.sub.Rice.Escapes = roomy(s.sub.Rice.Params), roomy(s.sub.Rice.Escapes)
		in := lists(s.list, s.sub)
		var were [][]int
		for _, l := range in {
			were = append(were, slices.Clone(l[:cap(l)]))
		}
		if e := subframe.Check(s.sub, len(s.list), s.width); e != api.OK {
			t.Fatal(e)
		}
		subframe.Check(s.sub, 0, s.width)
		if e := subframe.Encode(bits.New(), s.sub, s.width, s.list); e != api.OK {
			t.Fatal(e)
		}
		subframe.Encode(bits.New(), s.sub, s.sub.Wasted, s.list)
		subframe.Encode(bits.New(), s.sub, s.width, s.list[1:])
		subframe.Encode(nil, s.sub, s.width, s.list)
		for i, l := range in {
			if !slices.Equal(l[:cap(l)], were[i]) {
				t.Fatalf("%s became %s", short(were[i]), short(l[:cap(l)]))
			}
		}
	}
}

// What is done to an answer is not to be seen in another one, nor what is done to what was handed in.
func TestWhatIsHandedOutIsNew(t *testing.T) {
	r := numbers(1052)
	for range 1000 {
		s := r.sample()
		d, _ := encodeModel(s.sub, s.width, s.list)
		x := bits.Of(packed(d))
		l, q, _ := subframe.Decode(x, len(s.list), s.width)
		spoil(lists(l, q)...)
		isDecode(t, d, s)
		w := bits.New()
		subframe.Encode(w, s.sub, s.width, s.list)
		spoil(lists(s.list, s.sub)...)
		if w.Bytes() != packed(d) {
			t.Fatal("a writer hangs on what was handed in")
		}
	}
}

// Lists of one answer do not lie in one another, not even behind their ends.
func TestListsAreApart(t *testing.T) {
	r := numbers(1053)
	for range 1000 {
		s := r.sample()
		d, _ := encodeModel(s.sub, s.width, s.list)
		were := lists(s.list, s.sub)
		for i := range were {
			l, q, _ := subframe.Decode(bits.Of(packed(d)), len(s.list), s.width)
			out := lists(l, q)
			spoil(out[i])
			for j := range out {
				if j != i && !slices.Equal(out[j], were[j]) {
					t.Fatalf("list %d lies in list %d", j, i)
				}
			}
		}
	}
}

// The same arguments have the same answers, however often.
func TestTheSameAgain(t *testing.T) {
	r := numbers(1054)
	for range 50 {
		s, other := r.sample(), r.sample()
		d, _ := encodeModel(s.sub, s.width, s.list)
		for range 3 {
			subframe.Encode(bits.New(), other.sub, other.width, other.list)
			subframe.Decode(bits.Of("\x80"), 4, 4)
			isCheck(t, s.sub, len(s.list), s.width, api.OK)
			isEncode(t, s, d, api.OK)
			isDecode(t, d, s)
		}
	}
}
