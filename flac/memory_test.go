package flac_test

import (
	"slices"
	"testing"
	"unsafe"

	"lacquer/api"
	"lacquer/flac"
	"lacquer/pcm"
)

// Rule R4, of all calls: what is handed in is left as it was, also behind the ends of lists, and what is handed out is new.

// roomy is l with something behind its end.
func roomy[T any](l []T, behind ...T) []T {
	more := append(slices.Clone(l), behind...)
	return more[:len(l):len(more)]
}

// roomyFile is the file with lists that have something behind their ends.
func roomyFile(p api.PCM, f api.Flac) (api.PCM, api.Flac) {
	p.Planes = roomy(p.Planes, []int{1}, []int{2})
	for c, l := range p.Planes {
		p.Planes[c] = roomy(l, 777, -778)
	}
	f.Blocks = roomy(f.Blocks, api.Block{Type: 77, Body: "one"}, api.Block{Type: -7})
	f.Frames = roomy(f.Frames, api.Frame{Size: 5}, api.Frame{Number: 9})
	for k := range f.Frames {
		g := &f.Frames[k]
		g.Subs = roomy(g.Subs, api.Sub{Kind: 7}, api.Sub{Order: 9})
		for c := range g.Subs {
			q := &g.Subs[c]
			q.Coefs, q.Rice.Params, q.Rice.Escapes = roomy(q.Coefs, 71, 72), roomy(q.Rice.Params, 73, 74), roomy(q.Rice.Escapes, 75, 76)
		}
	}
	return p, f
}

// whole is l up to the end of its memory.
func whole[T any](l []T) []T { return slices.Clone(l[:cap(l)]) }

// deep is a copy of all, up to the ends of the memory.
func deep(p api.PCM, f api.Flac) (api.PCM, api.Flac) {
	p.Planes = whole(p.Planes)
	for c, l := range p.Planes {
		p.Planes[c] = whole(l)
	}
	f.Blocks, f.Frames = whole(f.Blocks), whole(f.Frames)
	for k := range f.Frames {
		g := &f.Frames[k]
		g.Subs = whole(g.Subs)
		for c := range g.Subs {
			q := &g.Subs[c]
			q.Coefs, q.Rice.Params, q.Rice.Escapes = whole(q.Coefs), whole(q.Rice.Params), whole(q.Rice.Escapes)
		}
	}
	return p, f
}

// lists are all lists of numbers of planes and frames.
func lists(planes [][]int, l []api.Frame) [][]int {
	all := slices.Clone(planes)
	for _, f := range l {
		for _, s := range f.Subs {
			all = append(all, s.Coefs, s.Rice.Params, s.Rice.Escapes)
		}
	}
	return all
}

// spoilList writes over all that lies in the memory of a list.
func spoilList(l []int) {
	l = l[:cap(l)]
	for i := range l {
		l[i] = -99999
	}
}

// spoilAll writes over all that lies in the memory of planes and a skeleton.
func spoilAll(planes [][]int, f api.Flac) {
	for _, l := range lists(planes, f.Frames) {
		spoilList(l)
	}
	for _, g := range f.Frames {
		clear(g.Subs[:cap(g.Subs)])
	}
	clear(planes[:cap(planes)])
	clear(f.Frames[:cap(f.Frames)])
	clear(f.Blocks[:cap(f.Blocks)])
}

func TestWhatIsHandedInIsLeft(t *testing.T) {
	r := numbers(1461)
	for range 500 {
		p, f := roomyFile(r.file())
		wasPcm, wasFlac := deep(p, f)
		s, e := flac.Build(p, f)
		if e != api.OK {
			t.Fatal(e)
		}
		flac.Build(p, api.Flac{Blocks: f.Blocks, Frames: f.Frames[:len(f.Frames)+1]})
		flac.Build(p, api.Flac{Blocks: f.Blocks[:len(f.Blocks)+1], Frames: f.Frames})
		flac.Build(p, padded(f))
		flac.Build(api.PCM{Rate: 1, Channels: 1, Width: 4, Planes: p.Planes}, f)
		flac.Plain(p, r.below(3))
		flac.Parse(s)
		nowPcm, nowFlac := deep(p, f)
		if !pcm.Same(nowPcm, wasPcm) || !sameFlac(nowFlac, wasFlac) {
			t.Fatalf("%s, %s became %s, %s", short(wasPcm), short(wasFlac), short(nowPcm), short(nowFlac))
		}
	}
}

// What is done to an answer is not to be seen in another one, nor in what was handed in.
func TestWhatIsHandedOutIsNew(t *testing.T) {
	r := numbers(1462)
	for range 500 {
		p, f := r.file()
		s, _ := layModel(p, f)
		i, frames := infoOf(f.Blocks), s[4+len(metadata(f.Blocks...)):]
		q, g, _ := flac.Parse(s)
		planes, l, _ := flac.Frames(frames, i)
		spoilAll(q.Planes, g)
		if !samePlanes(planes, p.Planes) || !slices.EqualFunc(l, f.Frames, sameFrame) {
			t.Fatal("what Frames told became another")
		}
		spoilAll(planes, api.Flac{Frames: l})
		tells(t, s, p, f)
		reads(t, frames, i)

		level := r.below(3)
		first := plain(t, p, level)
		spoilAll(nil, plain(t, p, level))
		isPlain(t, "again", p, level, api.OK)
		want, _ := plainModel(p, level)
		u, _ := flac.Build(p, f)
		spoilAll(p.Planes, f)
		if !sameFlac(first, want) || u != s {
			t.Fatal("what was told hangs on what was handed in")
		}
	}
}

// Lists of one answer do not lie in one another, not even behind their ends.
func TestListsAreApart(t *testing.T) {
	r := numbers(1463)
	apart := func(were [][]int, again func() [][]int) {
		t.Helper()
		for i := range were {
			out := again()
			spoilList(out[i])
			for j := range out {
				if j != i && !slices.Equal(out[j], were[j]) {
					t.Fatalf("list %d lies in list %d", j, i)
				}
			}
		}
	}
	for range 40 {
		p, f := r.fileOf(1+r.below(3), 4+r.below(21), 44100)
		s, _ := layModel(p, f)
		apart(lists(p.Planes, f.Frames), func() [][]int {
			q, g, _ := flac.Parse(s)
			return lists(q.Planes, g.Frames)
		})
		level := r.below(3)
		sound := r.sound(2, 16, 2400)
		made := plain(t, sound, level)
		apart(lists(nil, made.Frames), func() [][]int { return lists(nil, plain(t, sound, level).Frames) })
	}
}

// within says whether a text of some bytes lies in the memory of s.
func within(part, s string) bool {
	if part == "" || s == "" {
		return false
	}
	from, at := uintptr(unsafe.Pointer(unsafe.StringData(s))), uintptr(unsafe.Pointer(unsafe.StringData(part)))
	return at >= from && at < from+uintptr(len(s))
}

// One who keeps a skeleton does not keep the text that it came from.
func TestTextsAreNew(t *testing.T) {
	r := numbers(1464)
	for range 200 {
		p, f := r.file()
		s, _ := flac.Build(p, f)
		_, g, _ := flac.Parse(s)
		for k, b := range g.Blocks {
			if within(b.Body, s) || within(s, f.Blocks[k].Body) {
				t.Fatalf("block %d lies in the text", k)
			}
		}
	}
}

// A plane handed in twice is two planes.
func TestTheSamePlaneTwice(t *testing.T) {
	i := stream(2, 16, 44100)
	p := quietPcm(i, 40)
	p.Planes[1] = p.Planes[0]
	f := quietFlac(i, quietRow(i, false, 20, 20)...)
	s, e := flac.Build(p, f)
	q, _, _ := flac.Parse(s)
	spoilList(q.Planes[0])
	if e != api.OK || !slices.Equal(q.Planes[1], p.Planes[1]) {
		t.Errorf("both planes are one list, error %d", e)
	}
}

// A list that is empty is the same as none (R3), and the same arguments have the same answers, however often.
func TestTheSameAgain(t *testing.T) {
	i := stream(2, 16, 44100)
	s := quietFile(i)
	p, f := threeFrames()
	other, _ := layModel(p, f)
	for range 3 {
		for _, planes := range [][][]int{{nil, nil}, {{}, {}}, {make([]int, 0, 4), nil}} {
			q := quietPcm(i, 0)
			q.Planes = planes
			for _, l := range [][]api.Frame{nil, {}, make([]api.Frame, 0, 3)} {
				if u, e := flac.Build(q, quietFlac(i, l...)); e != api.OK || u != s {
					t.Errorf("%s %d", short(u), e)
				}
			}
			isPlain(t, "none", q, 1, api.OK)
		}
		for k := range f.Frames {
			for c := range f.Frames[k].Subs {
				f.Frames[k].Subs[c].Coefs = []int{}
				f.Frames[k].Subs[c].Rice = api.Rice{Params: make([]int, 0, 3), Escapes: []int{}}
			}
		}
		refuses(t, "no blocks", p, api.Flac{Blocks: []api.Block{}, Frames: f.Frames}, api.ErrRecipe)
		isParse(t, "one", s, api.OK)
		isParse(t, "another", other, api.OK)
		isParse(t, "none", s+"x", api.ErrMalformed)
		if u, e := flac.Build(p, f); e != api.OK || u != other {
			t.Errorf("%s %d", short(u), e)
		}
	}
}
