package riff_test

import (
	"math"
	"slices"
	"strings"
	"testing"

	"lacquer/api"
	"lacquer/riff"
)

// Promise 6.1.

func TestExamplesOfChunks(t *testing.T) {
	for _, c := range []struct {
		s    string
		big  bool
		want []api.Chunk
	}{
		{"", false, nil},
		{"", true, nil},
		{"abcd\x00\x00\x00\x00", false, []api.Chunk{{Id: "abcd"}}},
		{"abcd\x00\x00\x00\x01z\x07", true, []api.Chunk{{Id: "abcd", Body: "z", Pad: 7}}},
		{"abcd\x01\x00\x00\x00z\x07", false, []api.Chunk{{Id: "abcd", Body: "z", Pad: 7}}},
		{"abcd\x01\x00\x00\x00z", false, []api.Chunk{{Id: "abcd", Body: "z", Pad: -1}}},
		{"abcd\x02\x00\x00\x00zy", false, []api.Chunk{{Id: "abcd", Body: "zy"}}},
		{"abcd\x01\x00\x00\x00z\x00    \x00\x00\x00\x00~~~~\x03\x00\x00\x00xyz", false,
			[]api.Chunk{{Id: "abcd", Body: "z"}, {Id: "    "}, {Id: "~~~~", Body: "xyz", Pad: -1}}},
	} {
		isChunks(t, c.s, c.big, c.want, api.OK)
		isLay(t, c.want, c.big, c.s, api.OK)
	}
}

// A text of each length up to some chunks: where it ends within a chunk, it is none.
func TestTextsCutOff(t *testing.T) {
	l := []api.Chunk{{Id: "abcd", Body: "123", Pad: 9}, {Id: "efgh"}, {Id: "ijkl", Body: "12345", Pad: 255}}
	for _, big := range []bool{false, true} {
		s := laid(l, big)
		for n := range len(s) + 1 {
			_, e := riff.Chunks(s[:n], big)
			whole := slices.Contains([]int{0, 11, 12, 20, 33, 34}, n)
			if whole != (e == api.OK) || !whole && e != api.ErrMalformed {
				t.Errorf("%d bytes: %d", n, e)
			}
			chunks(t, s[:n])
		}
	}
	for n := range 20 {
		for _, text := range []string{strings.Repeat("a", n), strings.Repeat("\x00", n), strings.Repeat(" ", n)} {
			if e := chunks(t, text); n > 0 && e != api.ErrMalformed {
				t.Errorf("%q: %d", text, e)
			}
		}
	}
}

// Each byte at each place of an Id.
func TestIds(t *testing.T) {
	for b := range 256 {
		for at := range 4 {
			id := swapped("abcd", at, string([]byte{byte(b)}))
			s := id + "\x00\x00\x00\x00"
			want, wantedLay := api.OK, api.OK
			if b < 32 || b > 126 {
				want, wantedLay = api.ErrMalformed, api.ErrRecipe
			}
			if e := chunks(t, s); e != want {
				t.Errorf("Chunks of Id %q: %d", id, e)
			}
			if e := chunks(t, "efgh\x00\x00\x00\x00"+s); e != want {
				t.Errorf("Chunks of a second Id %q: %d", id, e)
			}
			if e := lays(t, []api.Chunk{{Id: id}}); e != wantedLay {
				t.Errorf("Lay of Id %q: %d", id, e)
			}
			if e := lays(t, []api.Chunk{{Id: "efgh"}, {Id: id}}); e != wantedLay {
				t.Errorf("Lay of a second Id %q: %d", id, e)
			}
		}
	}
	for _, id := range []string{"", "a", "abc", "abcde", "abcdefgh", "abc\u00e4", "ab\u00e4"} {
		for _, l := range [][]api.Chunk{{{Id: id}}, {{Id: "efgh"}, {Id: id}}, {{Id: id}, {Id: "efgh"}}} {
			if e := lays(t, l); e != api.ErrRecipe {
				t.Errorf("Lay of Id %q: %d", id, e)
			}
		}
	}
}

// Each pad of Bodies of even and odd lengths, in the middle and at the end.
func TestPads(t *testing.T) {
	for length := range 6 {
		body := strings.Repeat("x", length)
		for pad := -3; pad <= 259; pad++ {
			c := api.Chunk{Id: "abcd", Body: body, Pad: pad}
			mid, last := api.ErrRecipe, api.ErrRecipe
			if length%2 == 0 && pad == 0 || length%2 == 1 && pad >= 0 && pad <= 255 {
				mid, last = api.OK, api.OK
			}
			if length%2 == 1 && pad == -1 {
				last = api.OK
			}
			if e := lays(t, []api.Chunk{c}); e != last {
				t.Errorf("Lay of %d bytes, pad %d: %d", length, pad, e)
			}
			if e := lays(t, []api.Chunk{{Id: "efgh"}, c}); e != last {
				t.Errorf("Lay of %d bytes, pad %d, at the end: %d", length, pad, e)
			}
			if e := lays(t, []api.Chunk{c, {Id: "efgh"}}); e != mid {
				t.Errorf("Lay of %d bytes, pad %d, in the middle: %d", length, pad, e)
			}
			chunks(t, laid([]api.Chunk{c}, false))
			chunks(t, laid([]api.Chunk{c, {Id: "efgh"}}, false))
			chunks(t, laid([]api.Chunk{c}, true))
		}
		for _, pad := range []int{math.MinInt, math.MaxInt, 256, -256, 1 << 32, -1 << 32, 7 << 40} {
			c := api.Chunk{Id: "abcd", Body: body, Pad: pad}
			if e := lays(t, []api.Chunk{c}); e != api.ErrRecipe {
				t.Errorf("Lay of %d bytes, pad %d: %d", length, pad, e)
			}
		}
	}
}

// A length that stands with its other end first is another length.
func TestBothEnds(t *testing.T) {
	for _, n := range []int{0, 1, 2, 255, 256, 257, 65535, 65536, 1 << 24} {
		body := strings.Repeat("b", n)
		l := []api.Chunk{{Id: "abcd", Body: body, Pad: 0}}
		if n%2 == 1 {
			l[0].Pad = 200
		}
		for _, big := range []bool{false, true} {
			s := laid(l, big)
			isLay(t, l, big, s, api.OK)
			isChunks(t, s, big, l, api.OK)
			_, wanted := chunksModel(s, !big)
			got, e := riff.Chunks(s, !big)
			if e != wanted || n > 0 && n < 1<<24 && slices.Equal(got, l) {
				t.Errorf("%d bytes with the other end first: %d", n, e)
			}
		}
	}
	for _, s := range []string{"abcd\xff\xff\xff\xff", "abcd\xff\xff\xff\xffxyz", "abcd\x00\x00\x00\x80xyz", "abcd\x80\x00\x00\x00xyz", "abcd\x04\x00\x00\x04xyz"} {
		if e := chunks(t, s); e != api.ErrMalformed {
			t.Errorf("%q: %d", s, e)
		}
		isChunks(t, s, true, nil, api.ErrMalformed)
	}
}

func TestManyChunks(t *testing.T) {
	empty := "abcd\x00\x00\x00\x00"
	for _, c := range []struct {
		s    string
		want api.Errno
	}{
		{strings.Repeat(empty, api.MaxChunks-1), api.OK},
		{strings.Repeat(empty, api.MaxChunks), api.OK},
		{strings.Repeat(empty, api.MaxChunks+1), api.ErrLarge},
		{strings.Repeat(empty, api.MaxChunks+1000), api.ErrLarge},
		// What is no chunk is told ahead of its being one too many; what is behind that one is not come to.
		{strings.Repeat(empty, api.MaxChunks) + "x", api.ErrMalformed},
		{strings.Repeat(empty, api.MaxChunks) + "abcd\x00\x00\x00", api.ErrMalformed},
		{strings.Repeat(empty, api.MaxChunks) + "abc\x7f\x00\x00\x00\x00", api.ErrMalformed},
		{strings.Repeat(empty, api.MaxChunks) + "abcd\x01\x00\x00\x01", api.ErrMalformed},
		{strings.Repeat(empty, api.MaxChunks) + "abcd\x01\x00\x00\x00z", api.ErrLarge},
		{strings.Repeat(empty, api.MaxChunks+1) + "x", api.ErrLarge},
		{strings.Repeat(empty, api.MaxChunks-1) + "x", api.ErrMalformed},
	} {
		if e := chunks(t, c.s); e != c.want {
			t.Errorf("%d bytes: %d, not %d", len(c.s), e, c.want)
		}
	}
	for _, n := range []int{0, 1, api.MaxChunks - 1, api.MaxChunks, api.MaxChunks + 1, 3 * api.MaxChunks} {
		l := slices.Repeat([]api.Chunk{{Id: "abcd"}}, n)
		want := api.OK
		if n > api.MaxChunks {
			want = api.ErrRecipe
		}
		if e := lays(t, l); e != want {
			t.Errorf("Lay of %d chunks: %d", n, e)
		}
	}
	// A pad of -1 is right of the last chunk alone, also where there are as many as can be.
	l := slices.Repeat([]api.Chunk{{Id: "abcd", Body: "1"}}, api.MaxChunks)
	l[api.MaxChunks-1].Pad = -1
	if e := lays(t, l); e != api.OK {
		t.Error(e)
	}
	l[api.MaxChunks-2].Pad = -1
	if e := lays(t, l); e != api.ErrRecipe {
		t.Error(e)
	}
}

func TestChunksOfAnyTexts(t *testing.T) {
	r := numbers(611)
	for range 3000 {
		l := r.chunks(5)
		if len(l) > 0 && r.below(3) == 0 && len(l[len(l)-1].Body)%2 == 1 {
			l[len(l)-1].Pad = -1
		}
		if e := lays(t, l); e != api.OK {
			t.Fatalf("%s: %d", short(l), e)
		}
		s := laid(l, r.below(2) == 0)
		chunks(t, s)
		if len(s) > 0 {
			chunks(t, swapped(s, r.below(len(s)), r.text(1)))
			chunks(t, s[:r.below(len(s))])
			chunks(t, s+r.text(1+r.below(10)))
		}
	}
}

// What is wrong in a list is told wherever it stands.
func TestLayOfAnyLists(t *testing.T) {
	r := numbers(612)
	wrong := 0
	for range 3000 {
		l := append(r.chunks(4), r.chunk())
		c := &l[r.below(len(l))]
		switch r.below(4) {
		case 0:
			c.Pad = r.below(600) - 200
		case 1:
			c.Body += "x"
		case 2:
			c.Id = r.text(4)
		case 3:
			c.Id = c.Id[:r.below(4)]
		}
		if lays(t, l) != api.OK {
			wrong++
		}
	}
	if wrong < 2000 || wrong == 3000 {
		t.Errorf("%d lists were wrong", wrong)
	}
}
