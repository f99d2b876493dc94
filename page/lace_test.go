package page_test

import (
	"math"
	"slices"
	"testing"

	"lacquer/api"
	"lacquer/page"
)

// Promises 15.3 and, of Packets, 15.2.

func TestExamplesOfLace(t *testing.T) {
	isLace(t, []int{510, 3}, 255, []int{255, 255, 0}, []int{3})
	isLace(t, []int{1, 2, 3}, 2, []int{1}, []int{2, 3})
}

func TestLacesOfOnePacket(t *testing.T) {
	isLace(t, []int{0}, 255, []int{0})
	isLace(t, []int{1}, 255, []int{1})
	isLace(t, []int{254}, 255, []int{254})
	isLace(t, []int{255}, 255, []int{255, 0})
	isLace(t, []int{256}, 255, []int{255, 1})
	isLace(t, []int{510}, 255, []int{255, 255, 0})
	isLace(t, []int{255}, 1, []int{255}, []int{0})
	isLace(t, []int{600}, 2, []int{255, 255}, []int{90})
	full := slices.Repeat([]int{255}, 255)
	isLace(t, []int{254*255 + 254}, 255, append(full[:254:254], 254))
	isLace(t, []int{255 * 255}, 255, full, []int{0})
	isLace(t, []int{510*255 + 1}, 255, full, full, []int{1})
	for size := range 2000 {
		laces(t, []int{size}, size%7)
		laces(t, []int{size}, 255)
	}
}

func TestNoPackets(t *testing.T) {
	for _, most := range []int{math.MinInt, -1, 0, 1, 2, 255, 256, math.MaxInt} {
		isLace(t, nil, most)
		isLace(t, []int{}, most)
	}
}

// The first packet has pages of its own, be there room on its last one or not.
func TestFirstPacketAlone(t *testing.T) {
	isLace(t, []int{0, 0}, 255, []int{0}, []int{0})
	isLace(t, []int{255, 1}, 3, []int{255, 0}, []int{1})
	isLace(t, []int{255, 1}, 2, []int{255, 0}, []int{1})
	isLace(t, []int{510, 510, 4}, 2, []int{255, 255}, []int{0}, []int{255, 255}, []int{0, 4})
	isLace(t, []int{3, 255, 255, 7}, 3, []int{3}, []int{255, 0, 255}, []int{0, 7})
}

func TestMost(t *testing.T) {
	isLace(t, []int{1, 2, 3, 4}, 1, []int{1}, []int{2}, []int{3}, []int{4})
	for _, most := range []int{0, -1, -255, math.MinInt} {
		isLace(t, []int{1, 2, 3, 4}, most, []int{1}, []int{2}, []int{3}, []int{4})
	}
	none := make([]int, 600)
	for _, most := range []int{255, 256, 257, 600, math.MaxInt} {
		isLace(t, none, most, none[:1], none[:255], none[:255], none[:89])
	}
	isLace(t, none, 254, none[:1], none[:254], none[:254], none[:91])
	for most := -3; most < 300; most++ {
		laces(t, none, most)
		laces(t, []int{2000, 300, 0, 255 * 40, 9}, most)
	}
}

func TestSizesBelow(t *testing.T) {
	for _, n := range []int{-1, -2, -254, -255, -256, math.MinInt} {
		isLace(t, []int{n}, 255, []int{0})
		isLace(t, []int{n, n}, 255, []int{0}, []int{0})
		isLace(t, []int{4, n, 255, n}, 255, []int{4}, []int{0, 255, 0, 0})
		isLace(t, []int{n, 4, n}, 1, []int{0}, []int{4}, []int{0})
	}
}

func TestLaceOfAnySizes(t *testing.T) {
	r := numbers(1531)
	for range 20000 {
		sizes := r.sizes(8)
		for i := range sizes {
			if r.below(10) == 0 {
				sizes[i] = -r.below(700)
			}
		}
		laces(t, sizes, r.of(1, 2, 3, 254, 255, 256, r.below(12), r.below(300), -r.below(10)))
	}
}

// paged is pages with these laces and nothing else: Packets does not ask for more.
func paged(cut ...[]int) []api.Page {
	l := make([]api.Page, len(cut))
	for k := range l {
		l[k].Laces = cut[k]
	}
	return l
}

func TestPacketsOfPages(t *testing.T) {
	isPackets(t, nil, nil, api.OK)
	isPackets(t, []api.Page{}, nil, api.OK)
	isPackets(t, paged(nil), nil, api.OK)
	isPackets(t, paged(nil, []int{}, nil), nil, api.OK)
	isPackets(t, paged([]int{0}), []int{0}, api.OK)
	isPackets(t, paged([]int{254}), []int{254}, api.OK)
	isPackets(t, paged([]int{255, 0}), []int{255}, api.OK)
	isPackets(t, paged([]int{255}, []int{1}), []int{256}, api.OK)
	isPackets(t, paged([]int{255, 255}, nil, []int{0, 3}), []int{510, 3}, api.OK)
	isPackets(t, paged([]int{1, 2, 3}), []int{1, 2, 3}, api.OK)
	isPackets(t, paged(nil, slices.Repeat([]int{255}, 255), slices.Repeat([]int{255}, 255), []int{9, 0}), []int{510*255 + 9, 0}, api.OK)
	isPackets(t, paged(make([]int, 300)), make([]int, 300), api.OK)
	isPackets(t, []api.Page{{Flags: -1, Serial: -5, Seq: 9, Granule: -7, Laces: []int{2}}, {Serial: 1, Laces: []int{3}}}, []int{2, 3}, api.OK)
	l, _ := many(70000)
	if e := cutsPackets(t, l); e != api.OK {
		t.Errorf("more pages than a text has: error %d", e)
	}
}

func TestPacketsThatAreNotWhole(t *testing.T) {
	isPackets(t, paged([]int{255}), nil, api.ErrRecipe)
	isPackets(t, paged([]int{3, 255}), nil, api.ErrRecipe)
	isPackets(t, paged([]int{3}, []int{255, 255}), nil, api.ErrRecipe)
	isPackets(t, paged([]int{3}, []int{255, 255}, nil, []int{}), nil, api.ErrRecipe)
	isPackets(t, paged([]int{255, 0, 255}), nil, api.ErrRecipe)
	isPackets(t, paged([]int{255, 0, 255}, []int{0}), []int{255, 255}, api.OK)
}

func TestLacesThatMayNotBe(t *testing.T) {
	for _, lace := range []int{-1, -2, -255, -256, 256, 257, 511, 1 << 32, 1<<32 + 1, math.MinInt, math.MaxInt} {
		isPackets(t, paged([]int{lace}), nil, api.ErrRecipe)
		isPackets(t, paged([]int{lace, 0}), nil, api.ErrRecipe)
		isPackets(t, paged([]int{255, lace}, []int{0}), nil, api.ErrRecipe)
		isPackets(t, paged([]int{1, 2}, nil, []int{3, lace}), nil, api.ErrRecipe)
	}
	for lace := -300; lace < 600; lace++ {
		if e := cutsPackets(t, paged([]int{lace, 1})); (e == api.OK) != (lace >= 0 && lace <= 255) {
			t.Errorf("a lace %d: error %d", lace, e)
		}
	}
}

func TestPacketsOfAnyLaces(t *testing.T) {
	r := numbers(1532)
	seen := map[api.Errno]int{}
	for range 20000 {
		cut := make([][]int, r.below(5))
		for k := range cut {
			for range r.below(6) {
				cut[k] = append(cut[k], r.of(0, 1, 254, 255, 255, r.below(256)))
			}
			if r.below(20) == 0 {
				cut[k] = append(cut[k], r.of(-1, 256, r.below(2000)-1000))
			}
		}
		seen[cutsPackets(t, paged(cut...))]++
	}
	if seen[api.OK] < 5000 || seen[api.ErrRecipe] < 2000 {
		t.Errorf("errors seen: %v", seen)
	}
}

// Packets of pages with the laces of Lace are the sizes (15.4).
func TestPacketsOfLace(t *testing.T) {
	r := numbers(1533)
	for range 5000 {
		sizes := r.sizes(8)
		want := slices.Clone(sizes)
		for i := range sizes {
			if r.below(10) == 0 {
				sizes[i], want[i] = -1-r.below(700), 0
			}
		}
		for _, most := range []int{0, 1, 2, 3, 254, 255, 256, r.below(300)} {
			isPackets(t, paged(page.Lace(sizes, most)...), want, api.OK)
		}
	}
}
