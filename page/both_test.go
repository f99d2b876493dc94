package page_test

import (
	"slices"
	"testing"

	"lacquer/api"
	"lacquer/page"
)

// Promise 15.4, and T7 of pages.

// comesOut fails, unless Parse tells the pages and packets of what Build makes of them; it says whether Build makes anything.
func comesOut(t *testing.T, l []api.Page, packets []string) bool {
	t.Helper()
	s, e := page.Build(l, packets)
	if e != api.OK {
		return false
	}
	m, q, e := page.Parse(s)
	if e != api.OK || !samePages(l, m) || !slices.Equal(packets, q) {
		t.Fatalf("%s became %s, error %d", short(l, packets), short(m, q), e)
	}
	return true
}

// comesBack fails, unless Build of what Parse tells of s is s; it says whether Parse tells anything.
func comesBack(t *testing.T, s string) bool {
	t.Helper()
	l, packets, e := page.Parse(s)
	if e != api.OK {
		return false
	}
	if u, e := page.Build(l, packets); e != api.OK || u != s {
		t.Fatalf("%s became %s, error %d", short(s), short(u), e)
	}
	sizes, e := page.Packets(l)
	isAsLong := func(size int, packet string) bool { return size == len(packet) }
	if e != api.OK || !slices.EqualFunc(sizes, packets, isAsLong) {
		t.Fatalf("%s: Packets tells %v, error %d", short(l, packets), sizes, e)
	}
	return true
}

func TestPagesComeBack(t *testing.T) {
	r := numbers(1541)
	taken := 0
	for range 5000 {
		l, packets := r.stream(r.sizes(6)...)
		s := text(l, packets)
		if !comesOut(t, l, packets) || !comesBack(t, s) {
			t.Fatalf("%s is not taken", short(l, packets))
		}
		if comesBack(t, mended(swapped(s, r.below(len(s)), r.text(1)))) {
			taken++
		}
		comesOut(t, changed(l, r.below(len(l)), func(p *api.Page) { p.Granule += r.below(5) - 2 }), packets)
	}
	if taken < 1000 {
		t.Errorf("only %d changed texts were taken", taken)
	}
	l, packets := many(65536)
	if !comesOut(t, l, packets) || !comesBack(t, text(l, packets)) {
		t.Error("as many pages as can be are not taken")
	}
	if comesBack(t, "") || comesOut(t, nil, nil) {
		t.Error("no pages are taken")
	}
}

// The pages that Lace deals out are pages that may be.
func TestLacedPagesComeBack(t *testing.T) {
	r := numbers(1542)
	for range 2000 {
		sizes := append(r.sizes(6), r.below(300))
		l := flagged(page.Lace(sizes, r.of(1, 2, 3, 254, 255, 256, r.below(300))))
		packets := r.texts(sizes...)
		if !comesOut(t, l, packets) || !comesBack(t, text(l, packets)) {
			t.Fatalf("%s is not taken", short(l, packets))
		}
	}
}

// FuzzParse looks for texts that are answered otherwise than the chapter says, or that do not come back.
func FuzzParse(f *testing.F) {
	r := numbers(1543)
	f.Add("", 0, 0)
	for range 30 {
		l, packets := r.stream(r.sizes(4)...)
		f.Add(text(l, packets), r.below(5), r.below(300))
	}
	f.Fuzz(func(t *testing.T, s string, at, n int) {
		parses(t, s)
		s = mended(s)
		parses(t, s)
		comesBack(t, s)
		l, packets, e := page.Parse(s)
		if e != api.OK {
			return
		}
		k := (at%len(l) + len(l)) % len(l)
		for _, m := range [][]api.Page{
			l,
			l[:k],
			l[k:],
			changed(l, k, func(p *api.Page) { p.Flags = n }),
			changed(l, k, func(p *api.Page) { p.Granule = n }),
			changed(l, k, func(p *api.Page) { p.Serial = n }),
			changed(l, k, func(p *api.Page) { p.Seq = n }),
			changed(l, k, func(p *api.Page) { p.Laces = append(p.Laces, n) }),
			changed(l, k, func(p *api.Page) { p.Laces = append([]int{n}, p.Laces...) }),
		} {
			builds(t, m, packets)
			comesOut(t, m, packets)
			cutsPackets(t, m)
		}
		sizes, _ := page.Packets(l)
		laces(t, sizes, n)
	})
}
