package oggflac

import (
	"slices"

	"lacquer/api"
	"lacquer/measure"
	"lacquer/meta"
	"lacquer/page"
)

// blockHead is how many bytes a block has ahead of its Body.
const blockHead = 4

// plan is the packets that a file has to have: of each how many bytes it has, and how many samples the frames have together up to its end.
type plan struct {
	sizes   []int
	samples []int
}

// planOf is that of the stream of p and f, which may be too large.
func planOf(p api.PCM, f api.Flac) plan {
	x := plan{sizes: blockSizes(f.Blocks), samples: make([]int, len(f.Blocks))}
	info, _ := meta.Info(f.Blocks[0].Body)
	from := 0
	for _, g := range f.Frames {
		end := from + g.Size
		x.sizes = append(x.sizes, measure.Frame(g, info.Width, part(p.Planes, from, end)))
		x.samples = append(x.samples, end)
		from = end
	}
	return x
}

// blockSizes is how many bytes the packets of the metadata have.
func blockSizes(l []api.Block) []int {
	sizes := make([]int, len(l))
	for k, b := range l {
		sizes[k] = blockHead + len(b.Body)
	}
	sizes[0] += blockAt
	return sizes
}

// part is what the planes have from the place from on up to end.
func part(planes [][]int, from, end int) [][]int {
	l := make([][]int, len(planes))
	for c, plane := range planes {
		l[c] = plane[from:end:end]
	}
	return l
}

// cut is the packets that the text has, all of it.
func (x plan) cut(text string) []string {
	packets := make([]string, len(x.sizes))
	for k, size := range x.sizes {
		packets[k], text = text[:size], text[size:]
	}
	return packets
}

// isOf says whether just these pages may hold the packets: the first one alone in the first page, and each page with the head that it has to have.
func (x plan) isOf(l []api.Page) bool {
	sizes, e := page.Packets(l)
	if e != api.OK || !slices.Equal(sizes, x.sizes) || !slices.Equal(l[0].Laces, []int{firstSize}) {
		return false
	}
	for k, p := range x.pages(lacesOf(l), l[0].Serial) {
		if headOf(p) != headOf(l[k]) {
			return false
		}
	}
	return true
}
