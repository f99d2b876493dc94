package search_test

import (
	"slices"
	"testing"

	"lacquer/api"
	"lacquer/search"
)

// Rule R4, of all calls: what is handed in is left as it was, also behind the ends of lists, and what is handed out is new.

// roomy is l with numbers behind its end.
func roomy(l []int) []int {
	more := append(slices.Clone(l), 777, -778, 779)
	return more[:len(l):len(more)]
}

// roomySample is the sample with lists that have something behind their ends.
func roomySample(s sample) sample {
	planes := append(slices.Clone(s.planes), []int{1}, []int{2})
	s.planes = planes[:len(s.planes)]
	for c := range s.planes {
		s.planes[c] = roomy(s.planes[c])
	}
	return s
}

// deep is a copy of all planes, up to the ends of the memory.
func deep(planes [][]int) [][]int {
	planes = slices.Clone(planes[:cap(planes)])
	for c := range planes {
		planes[c] = slices.Clone(planes[c][:cap(planes[c])])
	}
	return planes
}

// lists are all lists of numbers of Subs.
func lists(subs ...api.Sub) [][]int {
	var l [][]int
	for _, s := range subs {
		l = append(l, s.Coefs, s.Rice.Params, s.Rice.Escapes)
	}
	return l
}

// spoil writes over all that lies in the memory of the lists.
func spoil(lists ...[]int) {
	for _, l := range lists {
		l = l[:cap(l)]
		for i := range l {
			l[i] = -99999
		}
	}
}

// copied is lists of their own with the same numbers.
func copied(lists [][]int) [][]int {
	var l [][]int
	for _, m := range lists {
		l = append(l, slices.Clone(m))
	}
	return l
}

func TestWhatIsHandedInIsLeft(t *testing.T) {
	r := numbers(1251)
	for i := range 1500 {
		s := roomySample(r.sampleOf(1+r.below(4), 1+r.below(40)))
		was := deep(s.planes)
		if _, e := frameOf(s, i%3); e != api.OK {
			t.Fatal(e)
		}
		search.Frame(s.info, -1, s.planes, i%3)
		search.Frame(s.info, 0, s.planes[1:], i%3)
		search.Frame(stream(9, 3, 0), 0, s.planes, i%3)
		search.Frame(s.info, 0, s.planes, 3)
		search.Sub(s.planes[0], s.info.Width, i%3)
		search.Sub(s.planes[0], s.info.Width, 3)
		search.Sub(s.planes[0], 1, i%3)
		if !samePlanes(deep(s.planes), was) {
			t.Fatalf("%s became %s", short(was), short(deep(s.planes)))
		}
	}
}

// What is done to an answer is not to be seen in another one, nor in what was handed in; and what is done to that is not to be seen in an answer.
func TestWhatIsHandedOutIsNew(t *testing.T) {
	r := numbers(1252)
	for i := range 1000 {
		s := r.sampleOf(1+r.below(4), 1+r.below(40))
		was := copied(s.planes)
		level, width := i%3, s.info.Width
		f := isFrame(t, s, level)
		c := isSub(t, s.planes[0], width, level)
		spoil(lists(f.Subs...)...)
		spoil(lists(c.sub)...)
		clear(f.Subs[:cap(f.Subs)])
		if !samePlanes(s.planes, was) {
			t.Fatalf("%s became %s", short(was), short(s.planes))
		}
		f = isFrame(t, s, level)
		c = isSub(t, s.planes[0], width, level)
		spoil(s.planes...)
		s.planes = was
		want, _ := frameModel(s, level)
		one, _ := subModel(s.planes[0], width, level)
		if !sameFrame(f, want) || !sameSub(c.sub, one) {
			t.Fatalf("%s hangs on what was handed in", short(f))
		}
	}
}

// Lists of one answer do not lie in one another, not even behind their ends; also not where all channels are the same, and have the same predictor.
func TestListsAreApart(t *testing.T) {
	r := numbers(1253)
	for _, p := range predictorsOf(2) {
		for channels := 1; channels <= 8; channels++ {
			l := r.foretold(p, 64, 24, 3)
			s := sample{info: stream(channels, 24, 44100), planes: slices.Repeat([][]int{l}, channels)}
			were := lists(isFrame(t, s, 2).Subs...)
			for i := range were {
				f, _ := frameOf(s, 2)
				out := lists(f.Subs...)
				spoil(out[i])
				for j := range out {
					if j != i && !slices.Equal(out[j], were[j]) {
						t.Fatalf("%d channels: list %d lies in list %d", channels, j, i)
					}
				}
			}
		}
	}
}

// Each mode's Subs are apart too, and no two calls share a predictor's coefficients.
func TestCallsAreApart(t *testing.T) {
	r := numbers(1254)
	for range 300 {
		s := r.sampleOf(2, 64)
		f, _ := frameOf(s, 2)
		g, _ := frameOf(s, 2)
		were := copied(lists(g.Subs...))
		spoil(lists(f.Subs...)...)
		for i, l := range lists(g.Subs...) {
			if !slices.Equal(l, were[i]) {
				t.Fatalf("list %d of one answer lies in another one", i)
			}
		}
		spoil(lists(g.Subs[0])...)
		for i, l := range lists(g.Subs[1]) {
			if !slices.Equal(l, were[3+i]) {
				t.Fatalf("list %d of the second Sub lies in the first one", i)
			}
		}
	}
}

// A list that is empty is the same as none (R3), and the same arguments have the same answers, however often.
func TestTheSameAgain(t *testing.T) {
	r := numbers(1255)
	s, other := r.sampleOf(2, 40), r.sampleOf(3, 17)
	for range 3 {
		for level := range 3 {
			isFrame(t, s, level)
			isFrame(t, other, level)
			isSub(t, s.planes[1], 24, level)
			isNoSub(t, []int{}, 8, level)
			isNoSub(t, nil, 8, level)
			isNoFrame(t, sample{info: s.info}, level, api.ErrRecipe)
			isNoFrame(t, sample{info: s.info, planes: [][]int{}}, level, api.ErrRecipe)
			isNoFrame(t, sample{info: s.info, planes: [][]int{nil, {}}}, level, api.ErrRecipe)
		}
	}
}
