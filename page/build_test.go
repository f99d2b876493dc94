package page_test

import (
	"math"
	"slices"
	"strings"
	"testing"

	"lacquer/api"
)

// Promise 15.2, Build.

// A page byte by byte, as in the tests of Parse.
func TestBytesThatAreBuilt(t *testing.T) {
	want := "OggS\x00\x06" + "\x09\x00\x00\x00\x00\x00\x00\x00" + "\x78\x56\x34\x12" + "\x00\x00\x00\x00" + "\x8b\x32\x72\xf5" + "\x03" + "\x02\x00\x03" + "ab" + "cde"
	l := []api.Page{{Flags: 6, Granule: 9, Serial: 0x12345678, Laces: []int{2, 0, 3}}}
	packets := []string{"ab", "", "cde"}
	isBuild(t, "a page", l, packets, api.OK)
	if lay(l[0], "abcde") != want {
		t.Fatal("the tests' own page is another one")
	}
}

func TestBuildOverPages(t *testing.T) {
	r := numbers(1521)
	for _, sizes := range [][]int{{}, {0}, {254}, {255}, {256}, {510}, {0, 0}, {255, 0, 255}, {510, 3}, {254, 255, 256, 510, 0}, {1300, 2}} {
		var all []int
		for _, n := range laceModel(sizes, 255) {
			all = append(all, n...)
		}
		for most := 1; most <= len(all)+1; most++ {
			for empty := range 3 {
				cut := make([][]int, 1)
				for part := range slices.Chunk(all, most) {
					cut = append(cut, part)
					cut = append(cut, make([][]int, empty)...)
				}
				isBuild(t, "packets over pages", flagged(cut), r.texts(sizes...), api.OK)
			}
		}
	}
}

// The numbers of each page at the ends of their ranges and past them.
func TestNumbersOfBuild(t *testing.T) {
	r := numbers(1522)
	l, packets := flagged([][]int{{2}, {255}, {}, {1, 3}}), r.texts(2, 256, 3)
	isBuild(t, "as they are", l, packets, api.OK)
	for k := range l {
		for _, n := range []int{-1, 0, 1, 255, 1 << 32, 1<<63 - 1} {
			isBuild(t, "a Granule", changed(l, k, func(p *api.Page) { p.Granule = n }), packets, api.OK)
		}
		for _, n := range []int{-2, -256, -1 << 32, math.MinInt} {
			wrong(t, "a Granule", changed(l, k, func(p *api.Page) { p.Granule = n }), packets)
		}
		for _, n := range []int{1, -1, 8, 256, -256, 1 << 32, math.MinInt} {
			wrong(t, "Seq", changed(l, k, func(p *api.Page) { p.Seq += n }), packets)
		}
		for _, n := range []int{1, 2, 4, 8, 16, 128, 256, -256, 1 << 32, math.MinInt} {
			wrong(t, "Flags", changed(l, k, func(p *api.Page) { p.Flags ^= n }), packets)
		}
		for _, n := range []int{1, -1, 1 << 32, math.MinInt} {
			wrong(t, "another Serial", changed(l, k, func(p *api.Page) { p.Serial += n }), packets)
		}
		wrong(t, "Flags", changed(l, k, func(p *api.Page) { p.Flags = -1 }), packets)
	}
	for n, want := range map[int]api.Errno{0: api.OK, 1: api.OK, 1 << 31: api.OK, 1<<32 - 1: api.OK, -1: api.ErrRecipe, 1 << 32: api.ErrRecipe, 1<<32 + 1: api.ErrRecipe, math.MinInt: api.ErrRecipe, math.MaxInt: api.ErrRecipe} {
		m := slices.Clone(l)
		for k := range m {
			m[k].Serial = n
		}
		isBuild(t, "Serial", m, packets, want)
	}
	wrong(t, "no pages", nil, nil)
	wrong(t, "no pages", nil, []string{""})
}

// Packets that are others than those that the laces cut.
func TestOtherPackets(t *testing.T) {
	l := flagged([][]int{{2, 0}, {3}, {255}, {1}})
	packets := []string{"ab", "", "cde", strings.Repeat("f", 256)}
	isBuild(t, "the packets", l, packets, api.OK)
	for k := range packets {
		wrong(t, "one left out", l, slices.Delete(slices.Clone(packets), k, k+1))
		wrong(t, "one without bytes put in", l, slices.Insert(slices.Clone(packets), k, ""))
		longer, shorter := slices.Clone(packets), slices.Clone(packets)
		longer[k] += "x"
		wrong(t, "a longer one", l, longer)
		if shorter[k] != "" {
			shorter[k] = shorter[k][1:]
			wrong(t, "a shorter one", l, shorter)
		}
	}
	wrong(t, "one more", l, append(slices.Clone(packets), ""))
	wrong(t, "none", l, nil)
	wrong(t, "the same bytes cut elsewhere", l, []string{"a", "b", "cde", packets[3]})
	wrong(t, "two lengths changed", l, []string{"", "ab", "cde", packets[3]})
	wrong(t, "two in one", l, []string{"abcde", packets[3]})
	wrong(t, "a packet without laces", flagged([][]int{{}}), []string{""})
	wrong(t, "a lace without a packet", flagged([][]int{{0}}), nil)
}

func TestLacesOfBuild(t *testing.T) {
	for _, lace := range []int{-1, -255, -256, 256, 257, 510, 1 << 32, math.MinInt, math.MaxInt} {
		for at := range 3 {
			laces := []int{4, 4, 4}
			laces[at] = lace
			packets := []string{"wxyz", "wxyz", "wxyz"}
			packets[at] = strings.Repeat("x", max(0, min(lace, 600)))
			wrong(t, "a lace", flagged([][]int{laces}), packets)
			wrong(t, "a lace", flagged([][]int{{3}, laces}), append([]string{"abc"}, packets...))
		}
		wrong(t, "a lace without a packet", flagged([][]int{{lace}}), nil)
		wrong(t, "a lace and what takes it away", flagged([][]int{{lace, -lace}}), nil)
	}
	wrong(t, "laces that take away", flagged([][]int{{4, -2}}), []string{"ab"})
	wrong(t, "256 as a page's 255 and 1", flagged([][]int{{256}}), []string{strings.Repeat("x", 256)})
	for _, n := range []int{254, 255} {
		isBuild(t, "so many laces", flagged([][]int{{1}, make([]int, n)}), append([]string{"x"}, make([]string, n)...), api.OK)
	}
	for _, n := range []int{256, 257, 511, 512} {
		wrong(t, "too many laces", flagged([][]int{make([]int, n)}), make([]string, n))
		wrong(t, "too many laces", flagged([][]int{{1}, make([]int, n)}), append([]string{"x"}, make([]string, n)...))
	}
}

func TestLastPacketOfBuild(t *testing.T) {
	for _, cut := range [][][]int{{{255}}, {{255, 255}}, {{1, 255}}, {{255}, {}}, {{3}, {255}, {}, {}}} {
		for _, packets := range [][]string{nil, {strings.Repeat("x", 255)}, {"x", strings.Repeat("x", 255)}, {"xxx", strings.Repeat("x", 255)}, {strings.Repeat("x", 510)}} {
			wrong(t, "a last packet that is not whole", flagged(cut), packets)
		}
	}
}

func TestManyPagesOfBuild(t *testing.T) {
	for n, want := range map[int]api.Errno{65536: api.OK, 65537: api.ErrRecipe, 65538: api.ErrRecipe} {
		l, packets := many(n)
		isBuild(t, "many pages", l, packets, want)
	}
}

// Pages of which one thing or two may be others: Build tells just those that a text has.
func TestBuildOfAnyPages(t *testing.T) {
	r := numbers(1523)
	seen := map[api.Errno]int{}
	for range 12000 {
		l, packets := r.stream(r.sizes(5)...)
		for range r.below(3) {
			l, packets = r.turned(l, packets)
		}
		seen[builds(t, l, packets)]++
	}
	if seen[api.OK] < 3000 || seen[api.ErrRecipe] < 3000 {
		t.Errorf("errors seen: %v", seen)
	}
}

// turned is pages and packets of which one thing may be another.
func (r *numbers) turned(l []api.Page, packets []string) ([]api.Page, []string) {
	packets = slices.Clone(packets)
	turn := func(n *int) { *n = r.of(*n^1<<r.below(9), *n+1, *n-1, -*n, 0, *n+1<<32) }
	if len(packets) > 0 && r.below(3) == 0 {
		k := r.below(len(packets))
		packets[k] = r.texts(max(0, len(packets[k])+r.below(3)-1))[0]
		return l, packets
	}
	return changed(l, r.below(len(l)), func(p *api.Page) {
		switch r.below(6) {
		case 0:
			turn(&p.Flags)
		case 1:
			turn(&p.Granule)
		case 2:
			turn(&p.Serial)
		case 3:
			turn(&p.Seq)
		case 4:
			if len(p.Laces) > 0 {
				turn(&p.Laces[r.below(len(p.Laces))])
			}
		case 5:
			p.Laces = append(p.Laces, 0)
			packets = append(packets, "")
		}
	}), packets
}
