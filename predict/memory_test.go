package predict_test

import (
	"slices"
	"testing"

	"lacquer/api"
	"lacquer/predict"
)

// Rules R4 and R5, of all calls: what is handed in is left as it was, also behind the ends of lists, what is handed out is new, and the same again.

// roomy is l with numbers behind its end.
func roomy(l []int) []int {
	more := append(slices.Clone(l), 777, -778, 779)
	return more[:len(l):len(more)]
}

// spoil writes over all that lies in the memory of the lists.
func spoil(lists ...[]int) {
	for _, l := range lists {
		l = l[:cap(l)]
		for i := range l {
			l[i] = -99999
		}
	}
}

// handed is what the calls are given.
type handed struct {
	long, other, coefs, warm []int
}

// handedIn makes such lists up: long is a multiple of 4, coefs and warm are as many.
func handedIn(seed int) handed {
	r := numbers(seed)
	h := handed{long: r.list(8, 30), other: r.list(8, 30), coefs: r.list(3, 15), warm: r.list(3, 30)}
	for i := range h.long {
		h.long[i] *= 4
	}
	return handed{roomy(h.long), roomy(h.other), roomy(h.coefs), roomy(h.warm)}
}

// lists is all lists that are handed in.
func (h handed) lists() [][]int { return [][]int{h.long, h.other, h.coefs, h.warm} }

// one makes a list out of what a call answers.
func one(l []int, e api.Errno) ([][]int, api.Errno) { return [][]int{l}, e }

// two makes a list out of what a call answers.
func two(a, b []int, e api.Errno) ([][]int, api.Errno) { return [][]int{a, b}, e }

// calls is every call that hands lists out, with each order and mode.
func calls() []func(h handed) ([][]int, api.Errno) {
	all := []func(h handed) ([][]int, api.Errno){
		func(h handed) ([][]int, api.Errno) { return one(predict.Lpc(h.coefs, 3, h.long)) },
		func(h handed) ([][]int, api.Errno) { return one(predict.Lpc(h.coefs, 3, h.coefs)) },
		func(h handed) ([][]int, api.Errno) { return one(predict.Unlpc(h.coefs, 3, h.warm, h.long)) },
		func(h handed) ([][]int, api.Errno) { return one(predict.Unlpc(h.coefs, 3, h.warm, nil)) },
		func(h handed) ([][]int, api.Errno) { return one(predict.Unlpc(h.coefs, 3, h.coefs, h.coefs)) },
		func(h handed) ([][]int, api.Errno) { return one(predict.Shift(h.long, 2)) },
		func(h handed) ([][]int, api.Errno) { return one(predict.Shift(h.long, 0)) },
		func(h handed) ([][]int, api.Errno) { return one(predict.Unshift(h.long, 2)) },
		func(h handed) ([][]int, api.Errno) { return one(predict.Unshift(h.long, 0)) },
	}
	for order := range 5 {
		all = append(all,
			func(h handed) ([][]int, api.Errno) { return one(predict.Fixed(order, h.long)) },
			func(h handed) ([][]int, api.Errno) { return one(predict.Unfixed(order, h.long[:order], h.other)) },
			func(h handed) ([][]int, api.Errno) { return one(predict.Unfixed(order, h.long[:order], nil)) },
		)
	}
	for mode := range 4 {
		all = append(all,
			func(h handed) ([][]int, api.Errno) { return two(predict.Stereo(mode, h.long, h.other)) },
			func(h handed) ([][]int, api.Errno) { return two(predict.Stereo(mode, h.long, h.long)) },
			func(h handed) ([][]int, api.Errno) { return two(predict.Unstereo(mode, h.long, h.other)) },
			func(h handed) ([][]int, api.Errno) { return two(predict.Unstereo(mode, h.long, h.long)) },
		)
	}
	return all
}

// refused is calls that answer an error.
func refused(h handed) {
	predict.Fixed(5, h.long)
	predict.Unfixed(1, h.long, h.other)
	predict.Lpc(h.coefs, 32, h.long)
	predict.Unlpc(h.coefs, 0, h.long, h.other)
	predict.Shift(append(h.long[:len(h.long):len(h.long)], 1), 1)
	predict.Unshift(h.long, 32)
	predict.Stereo(4, h.long, h.other)
	predict.Unstereo(0, h.long, h.coefs)
}

// whole is copies of lists, with what lies behind their ends.
func whole(lists [][]int) [][]int {
	var all [][]int
	for _, l := range lists {
		all = append(all, slices.Clone(l[:cap(l)]))
	}
	return all
}

// copies is copies of lists.
func copies(lists [][]int) [][]int {
	var all [][]int
	for _, l := range lists {
		all = append(all, slices.Clone(l))
	}
	return all
}

// same says whether lists have the same numbers.
func same(a, b [][]int) bool { return slices.EqualFunc(a, b, slices.Equal) }

func TestWhatIsHandedInIsLeft(t *testing.T) {
	for i, call := range calls() {
		h := handedIn(961 + i)
		were := whole(h.lists())
		lists, e := call(h)
		if e != api.OK || !same(whole(h.lists()), were) {
			t.Fatalf("call %d: error %d, %v became %v", i, e, were, whole(h.lists()))
		}
		// What is done to the answer is not to be seen in what was handed in.
		spoil(lists...)
		predict.Wasted(h.long)
		refused(h)
		if !same(whole(h.lists()), were) {
			t.Fatalf("call %d: its answer lies in what was handed in", i)
		}
	}
}

func TestWhatIsHandedOutIsNew(t *testing.T) {
	for i, call := range calls() {
		h := handedIn(962 + i)
		lists, _ := call(h)
		were := copies(lists)
		again, e := call(h)
		if e != api.OK || !same(again, were) {
			t.Fatalf("call %d: %v, then %v", i, were, again)
		}
		spoil(again...)
		spoil(h.lists()...)
		if !same(lists, were) {
			t.Fatalf("call %d: its answer hangs on another one or on what was handed in", i)
		}
		last, _ := call(handedIn(962 + i))
		if !same(last, were) {
			t.Fatalf("call %d: %v, then %v", i, were, last)
		}
		// The lists of one answer are apart, also behind their ends.
		for j := range last {
			spoil(last[j])
			for k := j + 1; k < len(last); k++ {
				if !slices.Equal(last[k], were[k]) {
					t.Fatalf("call %d: list %d lies in list %d", i, k, j)
				}
			}
		}
		if lists, _ = call(handedIn(962 + i)); len(lists) == 2 {
			spoil(lists[1])
			if !slices.Equal(lists[0], were[0]) {
				t.Fatalf("call %d: the first list lies in the second", i)
			}
		}
	}
}
