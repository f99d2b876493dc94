package frame_test

import (
	"slices"
	"testing"

	"lacquer/api"
	"lacquer/frame"
)

// Rule R4, of all calls: what is handed in is left as it was, also behind the ends of lists, and what is handed out is new.

// roomy is l with numbers behind its end.
func roomy(l []int) []int {
	more := append(slices.Clone(l), 777, -778, 779)
	return more[:len(l):len(more)]
}

// roomySample is the sample with lists that have something behind their ends.
func roomySample(s sample) sample {
	subs := append(slices.Clone(s.frame.Subs), api.Sub{Kind: 7}, api.Sub{Order: 9})
	s.frame.Subs = subs[:len(s.frame.Subs)]
	planes := append(slices.Clone(s.planes), []int{1}, []int{2})
	s.planes = planes[:len(s.planes)]
	for c := range s.planes {
		q := &s.frame.Subs[c]
		s.planes[c], q.Coefs = roomy(s.planes[c]), roomy(q.Coefs)
		q.Rice.Params, q.Rice.Escapes = roomy(q.Rice.Params), roomy(q.Rice.Escapes)
	}
	return s
}

// lists are all lists of numbers of planes and a frame.
func lists(planes [][]int, f api.Frame) [][]int {
	l := slices.Clone(planes)
	for _, s := range f.Subs {
		l = append(l, s.Coefs, s.Rice.Params, s.Rice.Escapes)
	}
	return l
}

// spoil writes over all that lies in the memory of a list.
func spoil(l []int) {
	l = l[:cap(l)]
	for i := range l {
		l[i] = -99999
	}
}

// deep is a copy of all, up to the ends of the memory.
func deep(s sample) sample {
	s.planes = slices.Clone(s.planes[:cap(s.planes)])
	s.frame.Subs = slices.Clone(s.frame.Subs[:cap(s.frame.Subs)])
	for c := range s.planes {
		s.planes[c] = slices.Clone(s.planes[c][:cap(s.planes[c])])
	}
	for c := range s.frame.Subs {
		q := &s.frame.Subs[c]
		q.Coefs = slices.Clone(q.Coefs[:cap(q.Coefs)])
		q.Rice.Params = slices.Clone(q.Rice.Params[:cap(q.Rice.Params)])
		q.Rice.Escapes = slices.Clone(q.Rice.Escapes[:cap(q.Rice.Escapes)])
	}
	return s
}

func TestWhatIsHandedInIsLeft(t *testing.T) {
	r := numbers(1151)
	for range 1000 {
		s := roomySample(r.sample())
		was := deep(s)
		text, e := frame.Build(s.frame, s.info, s.planes)
		if e != api.OK || frame.Check(s.frame, s.info) != api.OK {
			t.Fatal(e)
		}
		frame.Build(s.frame, s.info, s.planes[1:])
		frame.Build(s.frame, stream(9, 3, 0), s.planes)
		frame.Check(s.frame, stream(9, 3, 0))
		frame.Parse(text, s.info)
		now := deep(s)
		if !samePlanes(now.planes, was.planes) || !sameFrame(now.frame, was.frame) {
			t.Fatalf("%s became %s", short(was), short(now))
		}
	}
}

// What is done to an answer is not to be seen in another one.
func TestWhatIsHandedOutIsNew(t *testing.T) {
	r := numbers(1152)
	for range 1000 {
		s := r.sample()
		text := textOf(s)
		l, f, _, _ := frame.Parse(text, s.info)
		for _, m := range lists(l, f) {
			spoil(m)
		}
		clear(l[:cap(l)])
		clear(f.Subs[:cap(f.Subs)])
		isParse(t, text, s)
	}
}

// Lists of one answer do not lie in one another, not even behind their ends.
func TestListsAreApart(t *testing.T) {
	r := numbers(1153)
	for range 300 {
		s := r.sampleOf(1+r.below(4), 1+r.below(30))
		text := textOf(s)
		were := lists(s.planes, s.frame)
		for i := range were {
			l, f, _, _ := frame.Parse(text, s.info)
			out := lists(l, f)
			spoil(out[i])
			for j := range out {
				if j != i && !slices.Equal(out[j], were[j]) {
					t.Fatalf("list %d lies in list %d", j, i)
				}
			}
		}
	}
}

// The same planes twice are two planes.
func TestTheSamePlaneTwice(t *testing.T) {
	for mode := range 4 {
		s := simple(2, 16)
		s.frame.Mode = mode
		s.planes[1] = s.planes[0]
		isBuild(t, s, textOf(s))
		l, _, _, _ := frame.Parse(textOf(s), s.info)
		spoil(l[0])
		if !slices.Equal(l[1], s.planes[1]) {
			t.Errorf("mode %d: both planes are one list", mode)
		}
	}
}

// A list that is empty is the same as none (R3), and the same arguments have the same answers, however often.
func TestTheSameAgain(t *testing.T) {
	s := simple(2, 5)
	for c := range s.frame.Subs {
		s.frame.Subs[c].Coefs = []int{}
		s.frame.Subs[c].Rice = api.Rice{Params: make([]int, 0, 3), Escapes: []int{}}
	}
	text := textOf(simple(2, 5))
	other := wide()
	for range 3 {
		isCheck(t, s.frame, s.info, api.OK)
		isBuild(t, s, text)
		isParse(t, text, s)
		isBuild(t, other, wideText)
		isNoParse(t, "\xff\xf8", s.info, api.ErrMalformed)
	}
	isNoBuild(t, sample{api.Frame{Subs: []api.Sub{}}, api.StreamInfo{}, [][]int{}})
	isNoParse(t, "", s.info, api.ErrMalformed)
}
