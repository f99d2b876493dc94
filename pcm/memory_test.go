package pcm_test

import (
	"testing"

	"lacquer/api"
	"lacquer/pcm"
)

// Rule R4, of all calls: what is handed in is left as it was, also behind the ends of lists, and what is handed out is new.

// roomy is p with room behind the end of each list, and that room filled.
func roomy(p api.PCM) api.PCM {
	q := p
	planes := make([][]int, len(p.Planes), len(p.Planes)+3)
	for i, plane := range p.Planes {
		row := append(append(make([]int, 0, len(plane)+4), plane...), 77, 78, 79, 80)
		planes[i] = row[:len(plane)]
	}
	more := planes[:cap(planes)]
	for i := len(planes); i < cap(planes); i++ {
		more[i] = []int{91, 92}
	}
	q.Planes = planes
	return q
}

// whole is all that lies in the memory of p's lists.
func whole(p api.PCM) api.PCM {
	q := p
	q.Planes = append([][]int{}, p.Planes[:cap(p.Planes)]...)
	for i, plane := range q.Planes {
		q.Planes[i] = append([]int{}, plane[:cap(plane)]...)
	}
	return q
}

// scribble writes over all that lies in the memory of p's lists.
func scribble(p api.PCM) {
	planes := p.Planes[:cap(p.Planes)]
	for i, plane := range planes {
		plane = plane[:cap(plane)]
		for j := range plane {
			plane[j] = -99
		}
		planes[i] = nil
	}
}

func TestWhatIsHandedInIsLeft(t *testing.T) {
	r := numbers(551)
	for range 200 {
		p, q := roomy(r.any(12)), roomy(r.any(12))
		q.Rate = p.Rate
		l := make([]api.PCM, 2, 3)
		l[0], l[1] = p, q
		l[:3][2] = one(16, 5)
		before, other := whole(p), whole(q)
		pcm.Check(p)
		pcm.Same(p, q)
		pcm.Len(p)
		pcm.Digest(p)
		for format := range 7 {
			pcm.Fits(format, p)
		}
		for _, how := range layouts() {
			pcm.Pack(p, how)
		}
		for _, at := range r.places(pcm.Len(p), 2) {
			pcm.Slice(p, 0, at)
			pcm.Slice(p, at, pcm.Len(p))
		}
		pcm.Join(l)
		pcm.Join(l[:1])
		if !like(whole(p), before) || !like(whole(q), other) {
			t.Fatalf("%v became %v, or %v %v", before, whole(p), other, whole(q))
		}
		if !like(l[0], p) || !like(l[1], q) || !like(l[:3][2], one(16, 5)) {
			t.Fatal("the list became another")
		}
	}
}

func TestSliceIsNewMemory(t *testing.T) {
	r := numbers(552)
	for range 200 {
		p := roomy(r.any(12))
		at := r.places(pcm.Len(p), 2)
		want := part(copied(p), at[1], at[2])
		before := whole(p)
		first, _ := pcm.Slice(p, at[1], at[2])
		second, _ := pcm.Slice(p, at[1], at[2])
		scribble(first)
		if !like(whole(p), before) || !like(second, want) {
			t.Fatal("a part shares memory with the whole, or with another part")
		}
		scribble(p)
		if !like(second, want) {
			t.Fatal("a part shares memory with the whole")
		}
	}
}

func TestJoinIsNewMemory(t *testing.T) {
	r := numbers(553)
	for range 200 {
		p := roomy(r.any(12))
		for _, l := range [][]api.PCM{{p}, {p, p}, {p, part(p, 0, 0)}, {part(p, 0, 0), p}} {
			before := whole(p)
			first, _ := pcm.Join(l)
			second, _ := pcm.Join(l)
			want := copied(second)
			scribble(first)
			if !like(whole(p), before) || !like(second, want) {
				t.Fatal("the whole shares memory with a part, or with another whole")
			}
		}
	}
}

// No two planes of an answer share memory, not even behind their ends.
func TestPlanesAreApart(t *testing.T) {
	r := numbers(554)
	for range 200 {
		p := r.any(12)
		s, _ := pcm.Pack(p, api.Layout{})
		a, _ := pcm.Unpack(s, p.Rate, p.Channels, p.Width, api.Layout{})
		b, _ := pcm.Slice(p, 0, pcm.Len(p))
		c, _ := pcm.Join([]api.PCM{p})
		for _, q := range []api.PCM{a, b, c} {
			for i := range q.Planes {
				grown := append(q.Planes[i], 1, 2, 3, 4)
				for j := range grown[:cap(grown)] {
					grown[:cap(grown)][j] = -99
				}
				for j, plane := range q.Planes {
					if j > i && !like(one(8, plane...), one(8, p.Planes[j]...)) {
						t.Fatalf("plane %d lies in plane %d", j, i)
					}
				}
			}
		}
	}
}

func TestUnpackIsNewMemory(t *testing.T) {
	s := "\x01\x02\x03\x04"
	p, _ := pcm.Unpack(s, 1, 2, 8, api.Layout{})
	q, _ := pcm.Unpack(s, 1, 2, 8, api.Layout{})
	scribble(p)
	want := api.PCM{Rate: 1, Channels: 2, Width: 8, Planes: [][]int{{1, 3}, {2, 4}}}
	answers(t, "Unpack again", q, api.OK, want, api.OK)
}

// The same arguments have the same answers, however often.
func TestTheSameAgain(t *testing.T) {
	r := numbers(555)
	p := r.pcm(3, 18, 50)
	for _, how := range layouts() {
		a, _ := pcm.Pack(p, how)
		pcm.Pack(r.any(20), how)
		b, _ := pcm.Pack(p, how)
		if a != b {
			t.Errorf("Pack %v", how)
		}
	}
	a, _ := pcm.Digest(p)
	pcm.Digest(r.any(20))
	b, _ := pcm.Digest(p)
	if a != b {
		t.Error("Digest")
	}
}
