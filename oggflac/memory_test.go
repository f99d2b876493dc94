package oggflac_test

import (
	"slices"
	"testing"
	"unsafe"

	"lacquer/api"
	"lacquer/oggflac"
	"lacquer/pcm"
)

// Rule R4, of all calls: what is handed in is left as it was, also behind the ends of lists, and what is handed out is new.

// roomy is l with something behind its end.
func roomy[T any](l []T, behind ...T) []T {
	more := append(slices.Clone(l), behind...)
	return more[:len(l):len(more)]
}

// whole is l up to the end of its memory.
func whole[T any](l []T) []T { return slices.Clone(l[:cap(l)]) }

// roomyFile is the file with lists that have something behind their ends.
func roomyFile(p api.PCM, o api.Ogg) (api.PCM, api.Ogg) {
	p.Planes = roomy(p.Planes, []int{1}, []int{2})
	for c, l := range p.Planes {
		p.Planes[c] = roomy(l, 777, -778)
	}
	o.Pages = roomy(o.Pages, api.Page{Flags: 9}, api.Page{Seq: -7})
	for k := range o.Pages {
		o.Pages[k].Laces = roomy(o.Pages[k].Laces, 300, -3)
	}
	f := &o.Flac
	f.Blocks = roomy(f.Blocks, api.Block{Type: 77, Body: "one"}, api.Block{Type: -7})
	f.Frames = roomy(f.Frames, api.Frame{Size: 5}, api.Frame{Number: 9})
	for k := range f.Frames {
		g := &f.Frames[k]
		g.Subs = roomy(g.Subs, api.Sub{Kind: 7}, api.Sub{Order: 9})
		for c := range g.Subs {
			q := &g.Subs[c]
			q.Coefs, q.Rice.Params, q.Rice.Escapes = roomy(q.Coefs, 71, 72), roomy(q.Rice.Params, 73, 74), roomy(q.Rice.Escapes, 75, 76)
		}
	}
	return p, o
}

// deep is a copy of all, up to the ends of the memory.
func deep(p api.PCM, o api.Ogg) (api.PCM, api.Ogg) {
	p.Planes = whole(p.Planes)
	for c, l := range p.Planes {
		p.Planes[c] = whole(l)
	}
	o.Pages = whole(o.Pages)
	for k := range o.Pages {
		o.Pages[k].Laces = whole(o.Pages[k].Laces)
	}
	o.Flac.Blocks, o.Flac.Frames = whole(o.Flac.Blocks), whole(o.Flac.Frames)
	for k := range o.Flac.Frames {
		g := &o.Flac.Frames[k]
		g.Subs = whole(g.Subs)
		for c := range g.Subs {
			q := &g.Subs[c]
			q.Coefs, q.Rice.Params, q.Rice.Escapes = whole(q.Coefs), whole(q.Rice.Params), whole(q.Rice.Escapes)
		}
	}
	return p, o
}

// lists are all lists of numbers of planes and a skeleton.
func lists(planes [][]int, o api.Ogg) [][]int {
	all := slices.Clone(planes)
	for _, p := range o.Pages {
		all = append(all, p.Laces)
	}
	for _, f := range o.Flac.Frames {
		for _, s := range f.Subs {
			all = append(all, s.Coefs, s.Rice.Params, s.Rice.Escapes)
		}
	}
	return all
}

// spoilList writes over all that lies in the memory of a list.
func spoilList(l []int) {
	l = l[:cap(l)]
	for i := range l {
		l[i] = -99999
	}
}

// spoilAll writes over all that lies in the memory of planes and a skeleton.
func spoilAll(planes [][]int, o api.Ogg) {
	for _, l := range lists(planes, o) {
		spoilList(l)
	}
	for _, g := range o.Flac.Frames {
		clear(g.Subs[:cap(g.Subs)])
	}
	clear(planes[:cap(planes)])
	clear(o.Pages[:cap(o.Pages)])
	clear(o.Flac.Frames[:cap(o.Flac.Frames)])
	clear(o.Flac.Blocks[:cap(o.Flac.Blocks)])
}

func TestWhatIsHandedInIsLeft(t *testing.T) {
	r := numbers(1661)
	for n := range 400 {
		p, o := roomyFile(r.file())
		wasPcm, wasOgg := deep(p, o)
		s, e := oggflac.Build(p, o)
		if e != api.OK {
			t.Fatal(e)
		}
		wrong := o
		wrong.Pages = o.Pages[:len(o.Pages)+1]
		oggflac.Build(p, wrong)
		wrong = o
		wrong.Flac.Blocks = o.Flac.Blocks[:len(o.Flac.Blocks)+1]
		oggflac.Build(p, wrong)
		oggflac.Lay(p, wrong.Flac)
		wrong = o
		wrong.Flac.Frames = o.Flac.Frames[:len(o.Flac.Frames)+1]
		oggflac.Build(p, wrong)
		oggflac.Lay(p, wrong.Flac)
		if n%20 == 0 {
			oggflac.Build(p, padded(o))
		}
		oggflac.Build(api.PCM{Rate: 1, Channels: 1, Width: 4, Planes: p.Planes}, o)
		oggflac.Lay(p, o.Flac)
		oggflac.Plain(p, r.below(3))
		oggflac.Parse(s)
		nowPcm, nowOgg := deep(p, o)
		if !pcm.Same(nowPcm, wasPcm) || !sameOgg(nowOgg, wasOgg) {
			t.Fatalf("%s, %s became %s, %s", short(wasPcm), short(wasOgg), short(nowPcm), short(nowOgg))
		}
	}
}

// Whoever writes into an answer, or into what was handed in, changes no other answer.
func TestAnswersAreNew(t *testing.T) {
	r := numbers(1662)
	for range 200 {
		p, o := r.file()
		s, _ := buildModel(p, o)
		q, x, _ := oggflac.Parse(s)
		spoilAll(q.Planes, x)
		tells(t, s, p, o)
		u, _ := oggflac.Build(p, o)
		want, _ := layModel(p, o.Flac)
		laid, _ := oggflac.Lay(p, o.Flac)
		spoilAll(nil, laid)
		if again, _ := oggflac.Lay(p, o.Flac); !sameOgg(again, want) {
			t.Fatal("Lay's answer lies in what was handed in, or in what is kept")
		}
		laid, _ = oggflac.Lay(p, o.Flac)
		_, kept := roomyFile(p, laid)
		made, _ := oggflac.Plain(p, 0)
		_, madeKept := roomyFile(p, made)
		spoilAll(p.Planes, o)
		if u != s || !sameOgg(laid, kept) || !sameOgg(made, madeKept) {
			t.Fatal("what was told hangs on what was handed in")
		}
	}
}

// Lists of one answer do not lie in one another, not even behind their ends, also where those that are handed in do.
func TestListsAreApart(t *testing.T) {
	r := numbers(1663)
	apart := func(were [][]int, again func() [][]int) {
		t.Helper()
		for i := range were {
			out := again()
			spoilList(out[i])
			for j := range out {
				if j != i && !slices.Equal(out[j], were[j]) {
					t.Fatalf("list %d lies in list %d", j, i)
				}
			}
		}
	}
	for range 40 {
		p, o := r.fileOf(1+r.below(3), 4+r.below(21), 44100)
		s, _ := buildModel(p, o)
		apart(lists(p.Planes, o), func() [][]int {
			q, x, _ := oggflac.Parse(s)
			return lists(q.Planes, x)
		})
		want, _ := layModel(p, o.Flac)
		apart(lists(nil, want), func() [][]int {
			x, _ := oggflac.Lay(p, o.Flac)
			return lists(nil, x)
		})
		sound := r.sound(2, 16, 2400)
		made, _ := oggflac.Plain(sound, 0)
		apart(lists(nil, made), func() [][]int {
			x, _ := oggflac.Plain(sound, 0)
			return lists(nil, x)
		})
	}
	i := stream(2, 16, 44100)
	f := api.Flac{Blocks: []api.Block{{Body: layInfo(i)}}, Frames: quietRow(i, false, 16, 16)}
	f.Frames[0].Subs = slices.Repeat([]api.Sub{codedBy(3)}, 2)
	f.Frames[1].Subs = f.Frames[0].Subs
	want, _ := layModel(quietPcm(i, 32), f)
	apart(lists(nil, want), func() [][]int {
		x, _ := oggflac.Lay(quietPcm(i, 32), f)
		return lists(nil, x)
	})
	x, _ := oggflac.Lay(quietPcm(i, 32), f)
	clear(x.Flac.Frames[0].Subs)
	if !sameFrame(x.Flac.Frames[1], f.Frames[1]) {
		t.Error("two frames have one list of Subs")
	}
}

// within says whether a text of some bytes lies in the memory of s.
func within(part, s string) bool {
	if part == "" || s == "" {
		return false
	}
	from, at := uintptr(unsafe.Pointer(unsafe.StringData(s))), uintptr(unsafe.Pointer(unsafe.StringData(part)))
	return at >= from && at < from+uintptr(len(s))
}

// One who keeps a skeleton does not keep the text that it came from.
func TestTextsAreNew(t *testing.T) {
	r := numbers(1664)
	for range 200 {
		p, o := r.file()
		s, _ := oggflac.Build(p, o)
		_, x, _ := oggflac.Parse(s)
		for k, b := range x.Flac.Blocks {
			if within(b.Body, s) || within(s, o.Flac.Blocks[k].Body) {
				t.Fatalf("block %d lies in the text", k)
			}
		}
	}
}

// A list that is empty is the same as none (R3), and the same arguments have the same answers, however often.
func TestTheSameAgain(t *testing.T) {
	i := stream(2, 16, 44100)
	f := api.Flac{Blocks: []api.Block{{Body: layInfo(i)}}}
	o, _ := layModel(quietPcm(i, 0), f)
	o.Pages = append(o.Pages, api.Page{})
	headed(o.Pages, 1, f)
	s, _ := buildModel(quietPcm(i, 0), o)
	three, threeOgg := threeFrames()
	other, _ := buildModel(three, threeOgg)
	for range 3 {
		for _, planes := range [][][]int{{nil, nil}, {{}, {}}, {make([]int, 0, 4), nil}} {
			q := quietPcm(i, 0)
			q.Planes = planes
			for _, l := range [][]int{nil, {}, make([]int, 0, 3)} {
				o.Pages[1].Laces = l
				o.Flac.Frames = make([]api.Frame, 0, len(planes))
				if u, e := oggflac.Build(q, o); e != api.OK || u != s {
					t.Errorf("%s %d", short(u), e)
				}
			}
			isPlain(t, "none", q, 1, api.OK)
			isLay(t, "none", q, o.Flac, api.OK)
		}
		for k := range threeOgg.Flac.Frames {
			for c := range threeOgg.Flac.Frames[k].Subs {
				threeOgg.Flac.Frames[k].Subs[c].Coefs = []int{}
				threeOgg.Flac.Frames[k].Subs[c].Rice = api.Rice{Params: make([]int, 0, 3), Escapes: []int{}}
			}
		}
		refuses(t, "no pages", three, api.Ogg{Major: 1, Pages: []api.Page{}, Flac: threeOgg.Flac}, api.ErrRecipe)
		isParse(t, "one", s, api.OK)
		isParse(t, "another", other, api.OK)
		isParse(t, "none", s+"x", api.ErrMalformed)
		if u, e := oggflac.Build(three, threeOgg); e != api.OK || u != other {
			t.Errorf("%s %d", short(u), e)
		}
	}
}
