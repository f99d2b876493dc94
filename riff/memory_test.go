package riff_test

import (
	"slices"
	"testing"
	"unsafe"

	"lacquer/api"
	"lacquer/riff"
)

// Rule R4, of all calls: what is handed in is left as it was, also behind the ends of lists, and what is handed out is new.

// roomy is l with chunks behind its end.
func roomy(l []api.Chunk) []api.Chunk {
	more := append(slices.Clone(l), api.Chunk{Id: "behd", Body: "one", Pad: 3}, api.Chunk{Id: "two"})
	return more[:len(l):len(more)]
}

// roomyPcm is p with samples behind the end of each plane, and a plane behind the last one.
func roomyPcm(p api.PCM) api.PCM {
	planes := make([][]int, 0, len(p.Planes)+1)
	for _, plane := range p.Planes {
		more := append(slices.Clone(plane), 77, 78, 79)
		planes = append(planes, more[:len(plane):len(more)])
	}
	planes[:cap(planes)][len(planes)] = []int{91, 92}
	p.Planes = planes
	return p
}

// all is all that lies in the memory of p's planes.
func all(p api.PCM) [][]int {
	var l [][]int
	for _, plane := range p.Planes[:cap(p.Planes)] {
		l = append(l, slices.Clone(plane[:cap(plane)]))
	}
	return l
}

// spoil writes over all that lies in the memory of a list.
func spoil(l []api.Chunk) {
	l = l[:cap(l)]
	for i := range l {
		l[i] = api.Chunk{Id: "bad\x00", Body: "spoilt", Pad: 99}
	}
}

func spoilPcm(p api.PCM) {
	planes := p.Planes[:cap(p.Planes)]
	for i, plane := range planes {
		plane = plane[:cap(plane)]
		for j := range plane {
			plane[j] = -99999
		}
		planes[i] = nil
	}
}

func TestWhatIsHandedInIsLeft(t *testing.T) {
	r := numbers(651)
	for range 500 {
		p := roomyPcm(r.any(6))
		w := r.wave(p)
		w.Chunks = roomy(w.Chunks)
		planes, list := all(p), slices.Clone(w.Chunks[:cap(w.Chunks)])
		s, e := riff.Build(p, w)
		if e != api.OK {
			t.Fatal(e)
		}
		riff.Plain(p)
		riff.Build(p, api.Wave{Form: "RIFF", Chunks: w.Chunks[1:]})
		riff.Lay(w.Chunks, true)
		riff.Lay(w.Chunks, false)
		riff.Parse(s)
		if !slices.Equal(w.Chunks[:cap(w.Chunks)], list) || !slices.EqualFunc(all(p), planes, slices.Equal) {
			t.Fatal("what was handed in became another")
		}
	}
}

// plainChunks are one and some more that may stand.
func plainChunks(r *numbers) []api.Chunk {
	return append(r.chunks(4), r.chunk())
}

// What is done to an answer is not to be seen in another one, nor in what was handed in.
func TestWhatIsHandedOutIsNew(t *testing.T) {
	r := numbers(652)
	for range 500 {
		p := r.any(6)
		w := r.wave(p)
		s := text(t, p, w)
		q, x, _ := riff.Parse(s)
		spoilPcm(q)
		spoil(x.Chunks)
		isParse(t, s, p, w, api.OK)
		plain := riff.Plain(p)
		want := slices.Clone(plain.Chunks)
		spoil(plain.Chunks)
		if !slices.Equal(riff.Plain(p).Chunks, want) {
			t.Fatal("Plain tells another")
		}
		bytes, _ := riff.Lay(plainChunks(&r), false)
		l, _ := riff.Chunks(bytes, false)
		first := slices.Clone(l)
		spoil(l)
		isChunks(t, bytes, false, first, api.OK)
		isBuild(t, p, w, s, api.OK)
		spoilPcm(p)
		spoil(w.Chunks)
		if q, _, e := riff.Parse(s); e != api.OK || len(q.Planes) == 0 {
			t.Fatal("a file hangs on what it was built from")
		}
	}
}

// Planes of one answer do not lie in one another, not even behind their ends.
func TestPlanesAreApart(t *testing.T) {
	p := api.PCM{Rate: 8000, Channels: 2, Width: 16, Planes: [][]int{{1, 2, 3}, {4, 5, 6}}}
	s := text(t, p, wave("RIFF", p, fmtChunk(16, p), api.Chunk{Id: "data"}))
	q, _, _ := riff.Parse(s)
	_ = append(q.Planes[0], 7, 8, 9, 10)
	if !slices.Equal(q.Planes[1], []int{4, 5, 6}) {
		t.Errorf("%v", q.Planes)
	}
}

// within says whether a text of some bytes lies in the memory of s.
func within(part, s string) bool {
	if part == "" || s == "" {
		return false
	}
	from, at := uintptr(unsafe.Pointer(unsafe.StringData(s))), uintptr(unsafe.Pointer(unsafe.StringData(part)))
	return at >= from && at < from+uintptr(len(s))
}

// One who keeps a chunk or a skeleton does not keep the text that it came from.
func TestTextsAreNew(t *testing.T) {
	r := numbers(653)
	for range 200 {
		p := r.any(6)
		s := text(t, p, r.wave(p))
		_, w, _ := riff.Parse(s)
		for _, c := range w.Chunks {
			if within(c.Id, s) || within(c.Body, s) || within(w.Form, s) {
				t.Fatalf("%q lies in the text", c.Id)
			}
		}
		bytes := laid(r.chunks(4), true)
		l, _ := riff.Chunks(bytes, true)
		for _, c := range l {
			if within(c.Id, bytes) || within(c.Body, bytes) {
				t.Fatalf("%q lies in the text", c.Id)
			}
		}
	}
}

// The same arguments have the same answers, however often.
func TestTheSameAgain(t *testing.T) {
	r := numbers(654)
	p, other := r.any(6), r.any(6)
	w := r.wave(p)
	s, _ := riff.Build(p, w)
	for range 3 {
		riff.Build(other, r.wave(other))
		riff.Parse("RIFF")
		isBuild(t, p, w, s, api.OK)
		isParse(t, s, p, w, api.OK)
	}
}
