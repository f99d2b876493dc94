package page_test

import (
	"slices"
	"testing"
	"unsafe"

	"lacquer/api"
	"lacquer/page"
)

// Rule R4, of all calls: what is handed in is left as it was, also behind the ends of lists, and what is handed out is new.

// roomy is l with something behind its end.
func roomy[T any](l []T, behind ...T) []T {
	more := append(slices.Clone(l), behind...)
	return more[:len(l):len(more)]
}

// roomyPages is pages with lists that have something behind their ends.
func roomyPages(l []api.Page) []api.Page {
	l = roomy(l, api.Page{Flags: 7, Laces: []int{1}}, api.Page{Granule: -9})
	for k := range l {
		l[k].Laces = roomy(l[k].Laces, 77, -78)
	}
	return l
}

// whole is l up to the end of its memory.
func whole[T any](l []T) []T { return slices.Clone(l[:cap(l)]) }

// deep is a copy of pages, up to the ends of the memory.
func deep(l []api.Page) []api.Page {
	l = whole(l)
	for k := range l {
		l[k].Laces = whole(l[k].Laces)
	}
	return l
}

// spoilList writes over all that lies in the memory of a list.
func spoilList(l []int) {
	l = l[:cap(l)]
	for i := range l {
		l[i] = -99999
	}
}

// spoilAll writes over all that lies in the memory of pages and packets.
func spoilAll(l []api.Page, packets []string) {
	for _, p := range l {
		spoilList(p.Laces)
	}
	clear(l[:cap(l)])
	clear(packets[:cap(packets)])
}

func lacesOfAll(l []api.Page) [][]int {
	var all [][]int
	for _, p := range l {
		all = append(all, p.Laces)
	}
	return all
}

func TestWhatIsHandedInIsLeft(t *testing.T) {
	r := numbers(1544)
	for range 1000 {
		sizes := r.sizes(6)
		l, packets := r.stream(sizes...)
		l, packets, sizes = roomyPages(l), roomy(packets, "behind", "it"), roomy(sizes, 5, 600)
		wasPages, wasPackets, wasSizes := deep(l), whole(packets), whole(sizes)
		if _, e := page.Build(l, packets); e != api.OK {
			t.Fatal(e)
		}
		page.Build(l[:len(l)+1], packets)
		page.Build(l, packets[:len(packets)+1])
		page.Packets(l)
		page.Packets(l[:len(l)+1])
		page.Lace(sizes, r.below(5))
		page.Lace(sizes[:min(1, len(sizes))], 255)
		if !samePages(deep(l), wasPages) || !slices.Equal(whole(packets), wasPackets) || !slices.Equal(whole(sizes), wasSizes) {
			t.Fatalf("%s became %s", short(wasPages, wasPackets, wasSizes), short(deep(l), whole(packets), whole(sizes)))
		}
	}
}

// What is done to an answer is not to be seen in another one, nor in what was handed in.
func TestWhatIsHandedOutIsNew(t *testing.T) {
	r := numbers(1545)
	for range 1000 {
		sizes := r.sizes(6)
		l, packets := r.stream(sizes...)
		s := text(l, packets)
		m, q, _ := page.Parse(s)
		spoilAll(m, q)
		isParse(t, "again", s, l, packets)

		most := r.below(300)
		for _, laces := range page.Lace(sizes, most) {
			spoilList(laces)
		}
		laces(t, sizes, most)

		first, _ := page.Packets(l)
		spoilList(first)
		isPackets(t, l, sizes, api.OK)

		cut := page.Lace(sizes, most)
		built, _ := page.Build(l, packets)
		told, _ := page.Packets(l)
		want := laceModel(sizes, most)
		wanted := slices.Clone(sizes)
		spoilAll(l, packets)
		spoilList(sizes)
		if built != s || !slices.Equal(told, wanted) || !slices.EqualFunc(cut, want, slices.Equal) {
			t.Fatal("what was told hangs on what was handed in")
		}
	}
}

// Lists of one answer do not lie in one another, not even behind their ends.
func TestListsAreApart(t *testing.T) {
	r := numbers(1546)
	apart := func(were [][]int, again func() [][]int) {
		t.Helper()
		for i := range were {
			out := again()
			spoilList(out[i])
			for j := range out {
				if j != i && !slices.Equal(out[j], were[j]) {
					t.Fatalf("list %d lies in list %d", j, i)
				}
			}
		}
	}
	for range 200 {
		sizes := r.sizes(6)
		l, packets := r.stream(sizes...)
		s := text(l, packets)
		apart(lacesOfAll(l), func() [][]int {
			m, _, _ := page.Parse(s)
			return lacesOfAll(m)
		})
		most := 1 + r.below(5)
		apart(laceModel(sizes, most), func() [][]int { return page.Lace(sizes, most) })
	}
}

// within says whether a text of some bytes lies in the memory of s.
func within(part, s string) bool {
	if part == "" || s == "" {
		return false
	}
	from, at := uintptr(unsafe.Pointer(unsafe.StringData(s))), uintptr(unsafe.Pointer(unsafe.StringData(part)))
	return at >= from && at < from+uintptr(len(s))
}

// One who keeps a packet does not keep the text that it came from, nor another packet.
func TestTextsAreNew(t *testing.T) {
	r := numbers(1547)
	for range 500 {
		l, packets := r.stream(r.sizes(6)...)
		s, _ := page.Build(l, packets)
		_, q, _ := page.Parse(s)
		for k := range q {
			if within(q[k], s) || within(s, packets[k]) {
				t.Fatalf("packet %d lies in the text", k)
			}
			for j := range q {
				if j != k && within(q[k], q[j]) {
					t.Fatalf("packet %d lies in packet %d", k, j)
				}
			}
		}
	}
}

// Laces handed in twice are those of two pages.
func TestTheSameLacesTwice(t *testing.T) {
	l, packets := flagged([][]int{{1, 2}, {1, 2}}), []string{"a", "bc", "d", "ef"}
	l[1].Laces = l[0].Laces
	s, e := page.Build(l, packets)
	m, _, _ := page.Parse(s)
	spoilList(m[0].Laces)
	if e != api.OK || !slices.Equal(m[1].Laces, []int{1, 2}) {
		t.Errorf("both pages have one list, error %d", e)
	}
}

// A list that is empty is the same as none (R3), and the same arguments have the same answers, however often.
func TestTheSameAgain(t *testing.T) {
	l, packets := flagged([][]int{{1}, {}, {2}}), []string{"a", "bc"}
	s := text(l, packets)
	none := flagged(make([][]int, 2))
	for range 3 {
		isParse(t, "again", s, l, packets)
		for _, laces := range [][]int{nil, {}, make([]int, 0, 4)} {
			l[1].Laces, none[0].Laces = laces, laces
			isBuild(t, "again", l, packets, api.OK)
			for _, packets := range [][]string{nil, {}, make([]string, 0, 3)} {
				isBuild(t, "no packets", none, packets, api.OK)
				wrong(t, "nothing", nil, packets)
				wrong(t, "nothing", []api.Page{}, packets)
			}
			isPackets(t, none, nil, api.OK)
		}
		isPackets(t, l, []int{1, 2}, api.OK)
		isLace(t, []int{1, 2}, 255, []int{1}, []int{2})
	}
}
