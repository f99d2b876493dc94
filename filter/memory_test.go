package filter_test

import (
	"slices"
	"testing"

	"lacquer/api"
	"lacquer/filter"
)

// Rules R4 and R5, of all calls: what is handed in is left as it was, also behind the ends of lists, what is handed out is new, and the same again.

// roomy is l with numbers behind its end.
func roomy(l []int) []int {
	more := append(slices.Clone(l), 777, -778, 779)
	return more[:len(l):len(more)]
}

// spoil writes over all that lies in the memory of the lists.
func spoil(lists ...[]int) {
	for _, l := range lists {
		l = l[:cap(l)]
		for i := range l {
			l[i] = -99999
		}
	}
}

// handed is what the calls are given: other is the longer one.
type handed struct {
	long, other []int
}

// handedIn makes such lists up.
func handedIn(seed int) handed {
	r := numbers(seed)
	return handed{roomy(r.list(50, 30)), roomy(r.list(60, 30))}
}

// lists is all lists that are handed in.
func (h handed) lists() [][]int { return [][]int{h.long, h.other} }

// one makes a list out of what a call answers.
func one(l []int, e api.Errno) ([][]int, api.Errno) { return [][]int{l}, e }

// two makes a list out of what a call answers.
func two(a, b []int) ([][]int, api.Errno) { return [][]int{a, b}, api.OK }

// calls is every call that hands lists out, with each level.
func calls() []func(h handed) ([][]int, api.Errno) {
	all := []func(h handed) ([][]int, api.Errno){
		func(h handed) ([][]int, api.Errno) { return two(filter.Mid(h.long, h.other)) },
		func(h handed) ([][]int, api.Errno) { return two(filter.Mid(h.other, h.long)) },
		func(h handed) ([][]int, api.Errno) { return two(filter.Mid(h.long, h.long)) },
		func(h handed) ([][]int, api.Errno) { return two(filter.Mid(h.long, still(0, 50))) },
		func(h handed) ([][]int, api.Errno) { return two(filter.Unmid(h.long, h.other)) },
		func(h handed) ([][]int, api.Errno) { return two(filter.Unmid(h.other, h.long)) },
		func(h handed) ([][]int, api.Errno) { return two(filter.Unmid(h.long, h.long)) },
		func(h handed) ([][]int, api.Errno) { return two(filter.Unmid(h.long, still(0, 50))) },
		func(h handed) ([][]int, api.Errno) { return two(filter.Unmid(still(0, 50), h.long)) },
	}
	for level := range 3 {
		all = append(all,
			func(h handed) ([][]int, api.Errno) { return one(filter.Forward(level, h.long)) },
			func(h handed) ([][]int, api.Errno) { return one(filter.Inverse(level, h.long)) },
		)
	}
	return all
}

// refused is calls that answer an error.
func refused(h handed) {
	filter.Forward(3, h.long)
	filter.Inverse(-1, h.long)
	filter.Forward(2, append(h.long[:len(h.long):len(h.long)], 1<<31))
	filter.Inverse(2, append(h.long[:len(h.long):len(h.long)], 1<<31))
}

// whole is copies of lists, with what lies behind their ends.
func whole(lists [][]int) [][]int {
	var all [][]int
	for _, l := range lists {
		all = append(all, slices.Clone(l[:cap(l)]))
	}
	return all
}

// copies is copies of lists.
func copies(lists [][]int) [][]int {
	var all [][]int
	for _, l := range lists {
		all = append(all, slices.Clone(l))
	}
	return all
}

// same says whether lists have the same numbers.
func same(a, b [][]int) bool { return slices.EqualFunc(a, b, slices.Equal) }

func TestWhatIsHandedInIsLeft(t *testing.T) {
	for i, call := range calls() {
		h := handedIn(1741 + i)
		were := whole(h.lists())
		lists, e := call(h)
		if e != api.OK || !same(whole(h.lists()), were) {
			t.Fatalf("call %d: error %d, %v became %v", i, e, were, whole(h.lists()))
		}
		// What is done to the answer is not to be seen in what was handed in.
		spoil(lists...)
		refused(h)
		if !same(whole(h.lists()), were) {
			t.Fatalf("call %d: its answer lies in what was handed in", i)
		}
	}
}

func TestWhatIsHandedOutIsNew(t *testing.T) {
	for i, call := range calls() {
		h := handedIn(1742 + i)
		lists, _ := call(h)
		were := copies(lists)
		again, e := call(h)
		if e != api.OK || !same(again, were) {
			t.Fatalf("call %d: %v, then %v", i, were, again)
		}
		spoil(again...)
		spoil(h.lists()...)
		if !same(lists, were) {
			t.Fatalf("call %d: its answer hangs on another one or on what was handed in", i)
		}
		last, _ := call(handedIn(1742 + i))
		if !same(last, were) {
			t.Fatalf("call %d: %v, then %v", i, were, last)
		}
	}
}

// The two lists of one answer are apart, also behind their ends.
func TestListsAreApart(t *testing.T) {
	for i, call := range calls() {
		for j := range 2 {
			lists, _ := call(handedIn(1743 + i))
			if len(lists) < 2 {
				continue
			}
			were := slices.Clone(lists[1-j])
			spoil(lists[j])
			if !slices.Equal(lists[1-j], were) {
				t.Fatalf("call %d: one list lies in the other", i)
			}
		}
	}
}
