package aiff_test

import (
	"slices"
	"testing"
	"unsafe"

	"lacquer/aiff"
	"lacquer/api"
)

// Rule R4, of all calls: what is handed in is left as it was, also behind the ends of lists, and what is handed out is new.

// roomy is l with chunks behind its end.
func roomy(l []api.Chunk) []api.Chunk {
	more := append(slices.Clone(l), api.Chunk{Id: "behd", Body: "one", Pad: 3}, api.Chunk{Id: "two"})
	return more[:len(l):len(more)]
}

// roomyPcm is p with samples behind the end of each plane, and a plane behind the last one.
func roomyPcm(p api.PCM) api.PCM {
	planes := make([][]int, 0, len(p.Planes)+1)
	for _, plane := range p.Planes {
		more := append(slices.Clone(plane), 77, 78, 79)
		planes = append(planes, more[:len(plane):len(more)])
	}
	planes[:cap(planes)][len(planes)] = []int{91, 92}
	p.Planes = planes
	return p
}

// all is all that lies in the memory of p's planes.
func all(p api.PCM) [][]int {
	var l [][]int
	for _, plane := range p.Planes[:cap(p.Planes)] {
		l = append(l, slices.Clone(plane[:cap(plane)]))
	}
	return l
}

// spoil writes over all that lies in the memory of a list.
func spoil(l []api.Chunk) {
	l = l[:cap(l)]
	for i := range l {
		l[i] = api.Chunk{Id: "bad\x00", Body: "spoilt", Pad: 99}
	}
}

func spoilPcm(p api.PCM) {
	planes := p.Planes[:cap(p.Planes)]
	for i, plane := range planes {
		plane = plane[:cap(plane)]
		for j := range plane {
			plane[j] = -99999
		}
		planes[i] = nil
	}
}

func TestWhatIsHandedInIsLeft(t *testing.T) {
	r := numbers(751)
	for range 500 {
		p := roomyPcm(r.any(6))
		a := r.aiff(p)
		a.Chunks = roomy(a.Chunks)
		planes, list := all(p), slices.Clone(a.Chunks[:cap(a.Chunks)])
		s, e := aiff.Build(p, a)
		if e != api.OK {
			t.Fatal(e)
		}
		aiff.Plain(p)
		aiff.Build(p, api.Aiff{Form: a.Form, Chunks: a.Chunks[1:]})
		aiff.Build(p, api.Aiff{Form: "AIFX", Chunks: a.Chunks})
		aiff.Parse(s)
		if !slices.Equal(a.Chunks[:cap(a.Chunks)], list) || !slices.EqualFunc(all(p), planes, slices.Equal) {
			t.Fatal("what was handed in became another")
		}
	}
}

// What is done to an answer is not to be seen in another one, nor in what was handed in.
func TestWhatIsHandedOutIsNew(t *testing.T) {
	r := numbers(752)
	for range 500 {
		p := r.any(6)
		a := r.aiff(p)
		s := text(t, p, a)
		q, b, _ := aiff.Parse(s)
		spoilPcm(q)
		spoil(b.Chunks)
		isParse(t, s, p, a, api.OK)
		plain := aiff.Plain(p)
		want := slices.Clone(plain.Chunks)
		spoil(plain.Chunks)
		if !slices.Equal(aiff.Plain(p).Chunks, want) {
			t.Fatal("Plain tells another")
		}
		isBuild(t, p, a, s, api.OK)
		first, _ := aiff.Build(p, a)
		spoilPcm(p)
		spoil(a.Chunks)
		if first != s {
			t.Fatal("a file hangs on what it was built from")
		}
	}
}

// Planes of one answer do not lie in one another, not even behind their ends.
func TestPlanesAreApart(t *testing.T) {
	p := api.PCM{Rate: 8000, Channels: 2, Width: 16, Planes: [][]int{{1, 2, 3}, {4, 5, 6}}}
	for _, k := range kinds() {
		q, _, _ := aiff.Parse(text(t, p, k.aiff(k.comm(p), ssnd(""))))
		_ = append(q.Planes[0], 7, 8, 9, 10)
		if !slices.Equal(q.Planes[1], []int{4, 5, 6}) {
			t.Errorf("%v", q.Planes)
		}
	}
}

// within says whether a text of some bytes lies in the memory of s.
func within(part, s string) bool {
	if part == "" || s == "" {
		return false
	}
	from, at := uintptr(unsafe.Pointer(unsafe.StringData(s))), uintptr(unsafe.Pointer(unsafe.StringData(part)))
	return at >= from && at < from+uintptr(len(s))
}

// One who keeps a skeleton does not keep the text that it came from.
func TestTextsAreNew(t *testing.T) {
	r := numbers(753)
	for range 200 {
		p := r.any(6)
		s := text(t, p, r.aiff(p))
		_, a, _ := aiff.Parse(s)
		if within(a.Form, s) {
			t.Fatal("Form lies in the text")
		}
		for _, c := range a.Chunks {
			if within(c.Id, s) || within(c.Body, s) {
				t.Fatalf("%q lies in the text", c.Id)
			}
		}
	}
}

// The same arguments have the same answers, however often.
func TestTheSameAgain(t *testing.T) {
	r := numbers(754)
	p, other := r.any(6), r.any(6)
	a := r.aiff(p)
	s, _ := aiff.Build(p, a)
	for range 3 {
		aiff.Build(other, r.aiff(other))
		aiff.Build(other, a)
		aiff.Parse("FORM")
		isBuild(t, p, a, s, api.OK)
		isParse(t, s, p, a, api.OK)
	}
}
