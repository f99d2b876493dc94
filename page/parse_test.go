package page_test

import (
	"math"
	"slices"
	"strings"
	"testing"

	"lacquer/api"
)

// Promise 15.1.

// A page byte by byte. Its sum was worked out elsewhere, by a division of polynomials.
func TestBytesOfAPage(t *testing.T) {
	s := "OggS\x00\x06" + "\x09\x00\x00\x00\x00\x00\x00\x00" + "\x78\x56\x34\x12" + "\x00\x00\x00\x00" + "\x8b\x32\x72\xf5" + "\x03" + "\x02\x00\x03" + "ab" + "cde"
	l := []api.Page{{Flags: 6, Granule: 9, Serial: 0x12345678, Laces: []int{2, 0, 3}}}
	packets := []string{"ab", "", "cde"}
	if s != lay(l[0], "abcde") {
		t.Fatal("the tests' own page is another one")
	}
	isParse(t, "a page", s, l, packets)
}

func TestExamplesOfParse(t *testing.T) {
	open := []api.Page{{Flags: 2, Laces: []int{255}}, {Flags: 4, Seq: 1, Laces: []int{1}}}
	packets := []string{strings.Repeat("p", 256)}
	refuses(t, "a page with laces 255, the next one without the flag 1", text(open, packets), api.ErrMalformed)
	open[1].Flags = 5
	isParse(t, "a page with laces 255, the next one with the flag 1", text(open, packets), open, packets)
}

// Packets of the lengths at which laces change, in pages that are cut at each place.
func TestPacketsOverPages(t *testing.T) {
	r := numbers(1511)
	for _, sizes := range [][]int{{0}, {1}, {254}, {255}, {256}, {510}, {0, 0, 0}, {255, 0, 255}, {510, 3}, {254, 255, 256, 510, 0}, {1, 765, 2}, {1300}} {
		var all []int
		for _, n := range laceModel(sizes, 255) {
			all = append(all, n...)
		}
		for most := 1; most <= len(all)+1; most++ {
			for empty := range 3 {
				var cut [][]int
				for part := range slices.Chunk(all, most) {
					cut = append(cut, part)
					cut = append(cut, make([][]int, empty)...)
				}
				l, packets := flagged(cut), r.texts(sizes...)
				isParse(t, "packets over pages", text(l, packets), l, packets)
			}
		}
	}
}

func TestPagesWithoutPackets(t *testing.T) {
	for _, n := range []int{1, 2, 3, 100} {
		l := flagged(make([][]int, n))
		isParse(t, "pages without laces", text(l, nil), l, nil)
	}
}

// A page with as many laces as one may have: packets of no bytes, one packet, and the longest page.
func TestFullPages(t *testing.T) {
	r := numbers(1512)
	none, whole, longest := make([]int, 255), slices.Repeat([]int{255}, 255), slices.Repeat([]int{254}, 255)
	whole[254] = 254
	l := flagged([][]int{none, whole, longest, {7}})
	packets := append(make([]string, 255), r.text(254*255+254))
	packets = append(packets, r.texts(longest...)...)
	packets = append(packets, "seventh")
	isParse(t, "full pages", text(l, packets), l, packets)
	l = flagged([][]int{slices.Repeat([]int{255}, 255), slices.Repeat([]int{255}, 255), {0}})
	packets = r.texts(2 * 255 * 255)
	isParse(t, "a packet of full pages", text(l, packets), l, packets)
}

func TestTextsCutOff(t *testing.T) {
	r := numbers(1513)
	refuses(t, "nothing", "", api.ErrMalformed)
	l, packets := flagged([][]int{{3, 255}, {}, {2, 0}}), r.texts(3, 257, 0)
	s := text(l, packets)
	isParse(t, "the whole", s, l, packets)
	for n := range len(s) {
		refuses(t, "cut off", s[:n], api.ErrMalformed)
	}
	// What is cut off in a text's middle lets the next page be read at a wrong place.
	for n := range len(s) {
		refuses(t, "cut off in front", s[n+1:], api.ErrMalformed)
	}
	for _, behind := range []string{"\x00", "O", "OggS", "OggS\x00", s, s[:27], strings.Repeat("\x00", 27), r.text(300)} {
		refuses(t, "more behind", s+behind, api.ErrMalformed)
	}
}

// A page that is right, but that its mark is another.
func TestMarks(t *testing.T) {
	l, packets := flagged([][]int{{1}, {2}}), []string{"a", "bc"}
	pages := texts(l, packets)
	for k := range pages {
		for at := range 5 {
			for b := range 256 {
				other := slices.Clone(pages)
				other[k] = summed(swapped(pages[k], at, string([]byte{byte(b)})))
				if other[k] == pages[k] {
					continue
				}
				refuses(t, "another mark", strings.Join(other, ""), api.ErrMalformed)
			}
		}
	}
}

func TestFlagsOfParse(t *testing.T) {
	r := numbers(1514)
	l, packets := flagged([][]int{{255}, {1, 2}, {3}, {}, {4}}), r.texts(256, 2, 3, 4)
	for k := range l {
		for flags := range 256 {
			s := text(changed(l, k, func(p *api.Page) { p.Flags = flags }), packets)
			if flags == l[k].Flags {
				isParse(t, "the right Flags", s, l, packets)
			} else {
				refuses(t, "other Flags", s, api.ErrMalformed)
			}
		}
	}
	one := flagged([][]int{{1}})
	for flags := range 256 {
		one[0].Flags = flags
		if e := parses(t, text(one, []string{"x"})); (e == api.OK) != (flags == 6) {
			t.Errorf("Flags %d of one page: error %d", flags, e)
		}
	}
}

// A page within a packet that has no laces begins within it too, and so does the one behind it.
func TestWithin(t *testing.T) {
	r := numbers(1515)
	l, packets := flagged([][]int{{255}, {}, {}, {255, 255}, {}, {0, 5}, {}}), r.texts(3*255, 5)
	s := text(l, packets)
	isParse(t, "within", s, l, packets)
	for k, flags := range []int{2, 1, 1, 1, 1, 1, 4} {
		if l[k].Flags != flags {
			t.Fatalf("the tests' own Flags: %d", l[k].Flags)
		}
		refuses(t, "1 turned", text(changed(l, k, func(p *api.Page) { p.Flags ^= 1 }), packets), api.ErrMalformed)
	}
}

func TestSums(t *testing.T) {
	l, packets := flagged([][]int{{1}, {2}}), []string{"a", "bc"}
	pages := texts(l, packets)
	for k := range pages {
		for at := 22; at < 26; at++ {
			for b := 1; b < 256; b++ {
				other := slices.Clone(pages)
				other[k] = swapped(pages[k], at, string([]byte{pages[k][at] ^ byte(b)}))
				refuses(t, "another sum", strings.Join(other, ""), api.ErrMalformed)
			}
		}
		other := slices.Clone(pages)
		other[k] = swapped(pages[k], 22, "\x00\x00\x00\x00")
		refuses(t, "a sum of 0", strings.Join(other, ""), api.ErrMalformed)
		b := []byte(pages[k][22:26])
		slices.Reverse(b)
		other[k] = swapped(pages[k], 22, string(b))
		refuses(t, "a sum turned round", strings.Join(other, ""), api.ErrMalformed)
	}
}

func TestGranules(t *testing.T) {
	for _, n := range []int{-1, 0, 1, 255, 256, 65535, 1<<31 - 1, 1 << 31, 1<<32 - 1, 1 << 32, 1<<32 + 1, 1<<48 - 1, 1 << 62, math.MaxInt - 1, math.MaxInt} {
		for k := range 3 {
			l := changed(flagged([][]int{{1}, {1}, {}}), k, func(p *api.Page) { p.Granule = n })
			isParse(t, "a Granule", text(l, []string{"x", "y"}), l, []string{"x", "y"})
		}
	}
	for _, n := range []int{-2, -3, -255, -256, -257, -1 << 31, -1<<32 - 1, -1 << 32, -1<<32 + 1, math.MinInt + 1, math.MinInt} {
		for k := range 3 {
			l := changed(flagged([][]int{{1}, {1}, {}}), k, func(p *api.Page) { p.Granule = n })
			refuses(t, "a Granule below", text(l, []string{"x", "y"}), api.ErrMalformed)
		}
	}
	// Each byte of it that is not 255 leaves another number, the highest alone one that may be.
	for at := range 8 {
		for b := range 255 {
			l := flagged([][]int{{1}})
			l[0].Granule = -1 ^ (255-b)<<(8*at)
			want := api.ErrMalformed
			if at == 7 && b < 128 {
				want = api.OK
			}
			if e := parses(t, text(l, []string{"x"})); e != want {
				t.Fatalf("a byte %d at %d: error %d", b, at, e)
			}
		}
	}
}

func TestSerials(t *testing.T) {
	for _, serial := range []int{0, 1, 255, 256, 1<<31 - 1, 1 << 31, 1<<32 - 1} {
		l, packets := flagged([][]int{{1}, {1}, {}, {2}}), []string{"x", "y", "ab"}
		for k := range l {
			l[k].Serial = serial
		}
		isParse(t, "a Serial", text(l, packets), l, packets)
		for k := 1; k < len(l); k++ {
			for _, turned := range []int{1, 256, 1 << 16, 1 << 31, 1<<32 - 1} {
				refuses(t, "another Serial", text(changed(l, k, func(p *api.Page) { p.Serial ^= turned }), packets), api.ErrUnsupported)
			}
		}
		// Where the first page alone has another Serial, the second one is told.
		refuses(t, "another Serial in front", text(changed(l, 0, func(p *api.Page) { p.Serial ^= 1 }), packets), api.ErrUnsupported)
	}
}

func TestSeqs(t *testing.T) {
	l, packets := flagged([][]int{{1}, {1}, {1}, {1}}), []string{"a", "b", "c", "d"}
	for _, seqs := range [][]int{{1, 2, 3, 4}, {1, 1, 2, 3}, {0, 2, 3, 4}, {0, 1, 3, 4}, {0, 1, 2, 4}, {0, 0, 1, 2}, {0, 1, 1, 2}, {0, 1, 2, 2}, {0, 2, 1, 3}, {3, 2, 1, 0}, {0, 1, 2, 1<<32 - 1}, {1<<32 - 1, 0, 1, 2}, {0, 256, 2, 3}, {0, 1 << 24, 2, 3}} {
		m := slices.Clone(l)
		for k := range m {
			m[k].Seq = seqs[k]
		}
		refuses(t, "other numbers", text(m, packets), api.ErrMalformed)
	}
	// Pages that are whole, but not all or not in their order.
	all := texts(l, packets)
	for _, order := range [][]int{{1, 2, 3}, {0, 2, 3}, {0, 1, 3}, {0, 0, 1, 2, 3}, {0, 1, 1, 2, 3}, {0, 1, 2, 3, 3}, {0, 2, 1, 3}, {0, 1, 2, 3, 0}} {
		var s strings.Builder
		for _, k := range order {
			s.WriteString(all[k])
		}
		refuses(t, "another order", s.String(), api.ErrMalformed)
	}
}

func TestFirstAndLast(t *testing.T) {
	cut, packets := [][]int{{1}, {1}, {1}}, []string{"a", "b", "c"}
	for flags := range 512 {
		l := flagged(cut)
		for k := range l {
			l[k].Flags = flags >> (3 * k) & 7
		}
		want := api.ErrMalformed
		if l[0].Flags == 2 && l[1].Flags == 0 && l[2].Flags == 4 {
			want = api.OK
		}
		if e := parses(t, text(l, packets)); e != want {
			t.Fatalf("Flags %d %d %d: error %d", l[0].Flags, l[1].Flags, l[2].Flags, e)
		}
	}
}

func TestLastPacketNotWhole(t *testing.T) {
	r := numbers(1516)
	for _, cut := range [][][]int{{{255}}, {{255, 255}}, {{1, 255}}, {{255}, {}}, {{3}, {255}, {}, {}}, {{3}, slices.Repeat([]int{255}, 255)}, {{0, 255, 4, 255}}} {
		n := 0
		for _, page := range cut {
			for _, lace := range page {
				n += lace
			}
		}
		refuses(t, "a last packet that is not whole", text(flagged(cut), r.texts(n)), api.ErrMalformed)
		cut = append(cut, []int{0})
		if e := parses(t, text(flagged(cut), r.texts(n))); e != api.OK {
			t.Fatalf("made whole: error %d", e)
		}
	}
}

// fault is a page that is wrong, with the error that it alone makes.
type fault struct {
	what string
	of   func(l []api.Page, packets []string, at int) string
	want api.Errno
	when int
}

// When a fault of a page is told.
const (
	ofForm  = iota // by the page itself
	ofOrder        // by what stands ahead of it
	atEnd          // behind all pages
)

// with is a page that is wrong by its numbers.
func with(change func(p *api.Page)) func([]api.Page, []string, int) string {
	return func(l []api.Page, packets []string, at int) string {
		return texts(changed(l, at, change), packets)[at]
	}
}

// turned is a page that is wrong by a byte.
func turned(place int) func([]api.Page, []string, int) string {
	return func(l []api.Page, packets []string, at int) string {
		s := texts(l, packets)[at]
		return swapped(s, place, string([]byte{s[place] ^ 1}))
	}
}

func faults() []fault {
	return []fault{
		{"another mark", turned(3), api.ErrMalformed, ofForm},
		{"another version", turned(4), api.ErrMalformed, ofForm},
		{"another sum", turned(23), api.ErrMalformed, ofForm},
		{"Flags 8", with(func(p *api.Page) { p.Flags += 8 }), api.ErrMalformed, ofForm},
		{"Granule -2", with(func(p *api.Page) { p.Granule = -2 }), api.ErrMalformed, ofForm},
		{"another Serial", with(func(p *api.Page) { p.Serial++ }), api.ErrUnsupported, ofOrder},
		{"another Seq", with(func(p *api.Page) { p.Seq++ }), api.ErrMalformed, ofOrder},
		{"2 once more", with(func(p *api.Page) { p.Flags ^= 2 }), api.ErrMalformed, ofOrder},
		{"1 without a packet", with(func(p *api.Page) { p.Flags ^= 1 }), api.ErrMalformed, ofOrder},
		{"4 too soon", with(func(p *api.Page) { p.Flags ^= 4 }), api.ErrMalformed, atEnd},
		{"another Serial, another Seq", with(func(p *api.Page) { p.Serial++; p.Seq++ }), api.ErrUnsupported, ofOrder},
		{"another Serial, 2 once more", with(func(p *api.Page) { p.Serial++; p.Flags ^= 2 }), api.ErrUnsupported, ofOrder},
		{"another Serial, 1 without a packet", with(func(p *api.Page) { p.Serial++; p.Flags ^= 1 }), api.ErrUnsupported, ofOrder},
		{"another Serial, Flags 8", with(func(p *api.Page) { p.Serial++; p.Flags += 8 }), api.ErrMalformed, ofForm},
		{"another Serial, Granule -2", with(func(p *api.Page) { p.Serial++; p.Granule = -2 }), api.ErrMalformed, ofForm},
		{"another Serial that the sum does not know", turned(14), api.ErrMalformed, ofForm},
	}
}

// Two faults in one text: the first that is come to is told.
func TestTwoFaults(t *testing.T) {
	l, packets := flagged([][]int{{2}, {1}, {3, 4}, {1}, {2}}), []string{"ab", "c", "def", "ghij", "k", "lm"}
	pages := texts(l, packets)
	for _, a := range faults() {
		for at := 1; at < 4; at++ {
			one := slices.Clone(pages)
			one[at] = a.of(l, packets, at)
			refuses(t, a.what, strings.Join(one, ""), a.want)
			for _, b := range faults() {
				for later := at + 1; later < 5; later++ {
					two := slices.Clone(one)
					two[later] = b.of(l, packets, later)
					want := a.want
					if a.when == atEnd {
						want = b.want
					}
					refuses(t, a.what+", then "+b.what, strings.Join(two, ""), want)
				}
			}
		}
	}
}

// What is told behind all pages comes behind each page's own fault.
func TestFaultsAtTheEnd(t *testing.T) {
	r := numbers(1517)
	l, packets := flagged([][]int{{2}, {1, 255}}), r.texts(2, 1, 255)
	refuses(t, "a last packet that is not whole", text(l, packets), api.ErrMalformed)
	refuses(t, "and another Serial", text(changed(l, 1, func(p *api.Page) { p.Serial = 5 }), packets), api.ErrUnsupported)
	none := changed(l, 1, func(p *api.Page) { p.Flags = 0; p.Serial = 5 })
	refuses(t, "no last page, and another Serial", text(none, packets), api.ErrUnsupported)
	soon := changed(none, 0, func(p *api.Page) { p.Flags = 6 })
	refuses(t, "4 too soon, and another Serial", text(soon, packets), api.ErrUnsupported)
}

// many is so many pages, each with a packet of one byte or with none.
func many(n int) ([]api.Page, []string) {
	cut := make([][]int, n)
	var packets []string
	for k := range cut {
		if k%3 == 0 {
			cut[k] = []int{1}
			packets = append(packets, string([]byte{byte(k)}))
		}
	}
	l := flagged(cut)
	for k := range l {
		l[k].Serial, l[k].Granule = 9, k
	}
	return l, packets
}

func TestManyPages(t *testing.T) {
	for _, n := range []int{1, 2, 1000, 65535, 65536} {
		l, packets := many(n)
		isParse(t, "as many as can be", text(l, packets), l, packets)
	}
	for _, n := range []int{65537, 65538, 70000} {
		l, packets := many(n)
		refuses(t, "too many", text(l, packets), api.ErrLarge)
	}
}

// A page too many is told behind what is against the form in it, ahead of all else.
func TestOnePageTooMany(t *testing.T) {
	l, packets := many(65537)
	all := texts(l, packets)
	full, next := strings.Join(all[:65536], ""), all[65536]
	for _, f := range faults() {
		want := api.ErrLarge
		if f.when == ofForm {
			want = api.ErrMalformed
		}
		refusesLong(t, "one too many: "+f.what, full+f.of(l[65536:], nil, 0), want)
	}
	for _, n := range []int{1, len(next) - 1} {
		refusesLong(t, "one too many that is cut off", full+next[:n], api.ErrMalformed)
	}
	refusesLong(t, "what is not come to any more", full+next+"x", api.ErrLarge)
	refusesLong(t, "no last page", full, api.ErrMalformed)
	other := texts(changed(l[:65536], 65535, func(p *api.Page) { p.Serial++ }), packets)[65535]
	refusesLong(t, "another Serial ahead of it", strings.Join(all[:65535], "")+other+next, api.ErrUnsupported)
}

// Each byte that is another one is told, whichever it becomes.
func TestEachByteChanged(t *testing.T) {
	r := numbers(1518)
	l, packets := flagged([][]int{{3, 255}, {}, {2, 0, 30}, {1}}), r.texts(3, 257, 0, 30, 1)
	for k := range l {
		l[k].Serial, l[k].Granule = 0x01020304, []int{-1, 0, 5, 1 << 40}[k]
	}
	s := text(l, packets)
	isParse(t, "as it is", s, l, packets)
	for at := range len(s) {
		for b := 1; b < 256; b++ {
			refuses(t, "a byte", swapped(s, at, string([]byte{s[at] ^ byte(b)})), api.ErrMalformed)
		}
	}
}

// mended is s with the sums that its pages must have, as far as there are pages.
func mended(s string) string {
	var done strings.Builder
	for {
		_, end := ends(s)
		if end < 0 {
			return done.String() + s
		}
		done.WriteString(summed(s[:end]))
		s = s[end:]
	}
}

// Pages that may be, with a byte changed, cut out or put in, and with the sums that they then must have.
func TestParseOfAnyTexts(t *testing.T) {
	r := numbers(1519)
	seen := map[api.Errno]int{}
	for range 12000 {
		l, packets := r.stream(r.sizes(5)...)
		s := text(l, packets)
		at := r.below(len(s))
		switch r.below(7) {
		case 0:
			s = mended(s[:at] + s[at+1:])
		case 1:
			s = mended(s[:at] + r.text(1) + s[at:])
		case 2:
			s = mended(swapped(s, r.below(27), r.text(1)))
		case 3:
			s = mended(swapped(s, at, string([]byte{s[at] ^ 1<<r.below(8)})))
		case 4:
			s = mended("OggS\x00" + r.text(r.below(80)))
		case 5:
			k := r.below(len(l))
			switch r.below(3) {
			case 0:
				l[k].Serial ^= 1 << r.below(32)
			case 1:
				l[k].Flags ^= 1 << r.below(4)
			case 2:
				l[k].Seq += r.below(3) - 1
			}
			s = text(l, packets)
		}
		seen[parses(t, s)]++
	}
	for e, n := range map[api.Errno]int{api.OK: 2000, api.ErrMalformed: 2000, api.ErrUnsupported: 200} {
		if seen[e] < n {
			t.Errorf("error %d was seen %d times alone", e, seen[e])
		}
	}
}
