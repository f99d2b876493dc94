package meta_test

import (
	"slices"
	"strings"
	"testing"

	"lacquer/api"
	"lacquer/meta"
)

// Promise 13.3, of Parse.

// head is what stands ahead of a Body: the type, with 128 or not, and the length.
func head(first, length int) string {
	return string([]byte{byte(first), byte(length >> 16), byte(length >> 8), byte(length)})
}

func TestExamplesOfParse(t *testing.T) {
	alone := "\x80\x00\x00\x22" + exampleText
	isParse(t, alone, []api.Block{{Body: exampleText}}, 38)
	refuses(t, "a second one", "\x00\x00\x00\x22"+exampleText+alone, api.ErrMalformed)
	refuses(t, "type 127", "\x00\x00\x00\x22"+exampleText+"\xff\x00\x00\x00", api.ErrMalformed)
	refuses(t, "SEEKTABLE of 17 bytes", "\x00\x00\x00\x22"+exampleText+"\x83\x00\x00\x11"+strings.Repeat("s", 17), api.ErrMalformed)
	isParse(t, "\x00\x00\x00\x22"+exampleText+"\x81\x00\x00\x05\x00\xff\x01\x80\x07", []api.Block{{Body: exampleText}, {Type: 1, Body: "\x00\xff\x01\x80\x07"}}, 47)
}

// Each type behind STREAMINFO, last and not.
func TestParseOfEachType(t *testing.T) {
	start := head(0, 34) + exampleText
	for n := range 128 {
		body := right(n)
		b := api.Block{Type: n, Body: body}
		last, mid := start+head(n+128, len(body))+body, start+head(n, len(body))+body+head(128+1, 0)
		if n == 0 || n == 127 {
			refuses(t, "a type behind", last, api.ErrMalformed)
			refuses(t, "a type in the middle", mid, api.ErrMalformed)
			continue
		}
		isParse(t, last, []api.Block{{Body: exampleText}, b}, len(last))
		isParse(t, mid, []api.Block{{Body: exampleText}, b, {Type: 1}}, len(mid))
	}
}

// Whatever stands behind the last block is not looked at.
func TestBytesBehind(t *testing.T) {
	r := numbers(1331)
	for range 2000 {
		l := r.blocks(4)
		s := text(l...)
		for _, behind := range []string{"", "\x00", "x", "\xff\xf8", s, r.text(r.below(40)), "\xff\xff\xff\xff"} {
			isParse(t, s+behind, l, len(s))
		}
	}
}

// A text that ends anywhere within its blocks, in a head or in a Body.
func TestTextsCutOff(t *testing.T) {
	r := numbers(1332)
	l := []api.Block{first(), {Type: 1, Body: "12345"}, {Type: 4}, {Type: 6, Body: r.picture(2, 3, 4)}, {Type: 126, Body: "x"}}
	s := text(l...)
	for n := range len(s) {
		refuses(t, "cut off", s[:n], api.ErrMalformed)
	}
	isParse(t, s, l, len(s))
	for range 100 {
		l := r.blocks(6)
		s := text(l...)
		for n := range len(s) {
			refuses(t, "cut off", s[:n], api.ErrMalformed)
		}
	}
	start := head(0, 34) + exampleText
	for _, n := range []int{1, 255, 256, 65535, 65536, 1<<24 - 1} {
		refuses(t, "a Body that is not there", start+head(129, n), api.ErrMalformed)
		refuses(t, "a Body that is not all there", start+head(129, n)+strings.Repeat("\x00", n-1), api.ErrMalformed)
	}
	refuses(t, "a last block that is missing", start, api.ErrMalformed)
	refuses(t, "a last block that is missing", start+head(1, 0), api.ErrMalformed)
}

func TestLongestBody(t *testing.T) {
	for _, n := range []int{255, 256, 65535, 65536, 1<<24 - 2, 1<<24 - 1} {
		l := []api.Block{first(), {Type: 7, Body: strings.Repeat("b", n)}, {Type: 1}}
		isParse(t, text(l...), l, 4+34+4+n+4)
	}
}

func TestFirstBlocks(t *testing.T) {
	for n := 1; n < 128; n++ {
		b := api.Block{Type: n, Body: right(n)}
		refuses(t, "a first block", text(b), api.ErrMalformed)
		refuses(t, "a first block", text(b, first()), api.ErrMalformed)
	}
	refuses(t, "nothing", "", api.ErrMalformed)
	refuses(t, "type 127 in front", "\xff\x00\x00\x00", api.ErrMalformed)
	refuses(t, "type 127 in front", "\x7f\x00\x00\x00"+text(first()), api.ErrMalformed)
	refuses(t, "STREAMINFO of no bytes", "\x80\x00\x00\x00", api.ErrMalformed)
	refuses(t, "STREAMINFO of 33 bytes", text(api.Block{Body: exampleText[:33]}), api.ErrMalformed)
	refuses(t, "STREAMINFO of 35 bytes", text(api.Block{Body: exampleText + "x"}), api.ErrMalformed)
}

func TestTwoAlike(t *testing.T) {
	other := api.Block{Body: exampleText}
	refuses(t, "two STREAMINFO", text(first(), other), api.ErrMalformed)
	refuses(t, "two STREAMINFO, the same", text(first(), first()), api.ErrMalformed)
	refuses(t, "two STREAMINFO, apart", text(first(), api.Block{Type: 1}, other, api.Block{Type: 1}), api.ErrMalformed)
	refuses(t, "a second one that is none", text(first(), api.Block{Body: "x"}), api.ErrMalformed)
	comment := api.Block{Type: 4, Body: "c"}
	refuses(t, "two of type 4", text(first(), comment, comment), api.ErrMalformed)
	refuses(t, "two of type 4, unlike", text(first(), comment, api.Block{Type: 4}), api.ErrMalformed)
	refuses(t, "two of type 4, apart", text(first(), comment, api.Block{Type: 1}, api.Block{Type: 7}, comment), api.ErrMalformed)
	for n := 1; n < 127; n++ {
		l := []api.Block{first(), {Type: n, Body: right(n)}, {Type: n, Body: right(n)}}
		if n != 4 {
			isParse(t, text(l...), l, len(text(l...)))
		}
	}
}

// many is STREAMINFO and empty blocks, so many in all.
func many(n int) []api.Block {
	return slices.Insert(slices.Repeat([]api.Block{{Type: 1}}, n-1), 0, first())
}

func TestManyBlocks(t *testing.T) {
	for _, n := range []int{1, 2, 1023, 1024} {
		isParse(t, text(many(n)...)+"behind", many(n), 38+4*(n-1))
	}
	for _, n := range []int{1025, 1026, 3000} {
		refuses(t, "too many", text(many(n)...), api.ErrLarge)
	}
	full := head(0, 34) + exampleText + strings.Repeat(head(1, 0), 1023)
	for _, c := range []struct {
		what, behind string
		want         api.Errno
	}{
		// What is against the form is told ahead of its being one too many, and that ahead of what its Body is.
		{"no last block", "", api.ErrMalformed},
		{"a head cut off", "\x81\x00\x00", api.ErrMalformed},
		{"a Body cut off", "\x81\x00\x00\x02x", api.ErrMalformed},
		{"type 127", "\xff\x00\x00\x00", api.ErrMalformed},
		{"a second STREAMINFO", head(128, 34) + exampleText, api.ErrMalformed},
		{"a wrong SEEKTABLE", head(131, 1) + "x", api.ErrLarge},
		{"a wrong picture", head(134, 0), api.ErrLarge},
		{"one of type 4", head(132, 0), api.ErrLarge},
		{"what is not come to any more", head(1, 0) + "\xff", api.ErrLarge},
		{"a text that ends behind it", head(1, 0), api.ErrLarge},
	} {
		refuses(t, c.what, full+c.behind, c.want)
	}
	withComment := head(0, 34) + exampleText + head(4, 0) + strings.Repeat(head(1, 0), 1022)
	refuses(t, "a second of type 4", withComment+head(132, 0), api.ErrMalformed)
	refuses(t, "a fault ahead of too many", head(0, 34)+exampleText+head(3, 1)+"x"+strings.Repeat(head(1, 0), 2000), api.ErrMalformed)
}

// fault is a block that is wrong by itself, with its error; whole says that the text may go on behind it.
type fault struct {
	what, s string
	want    api.Errno
	whole   bool
}

func faults() []fault {
	return []fault{
		{"a second STREAMINFO", head(0, 34) + exampleText, api.ErrMalformed, true},
		{"type 127", head(127, 0), api.ErrMalformed, true},
		{"an APPLICATION of 3 bytes", head(2, 3) + "abc", api.ErrMalformed, true},
		{"a SEEKTABLE of 19 bytes", head(3, 19) + strings.Repeat("s", 19), api.ErrMalformed, true},
		{"a cuesheet of 396 bytes", head(5, 396) + strings.Repeat("c", 396), api.ErrMalformed, true},
		{"a picture of 31 bytes", head(6, 31) + strings.Repeat("\x00", 31), api.ErrMalformed, true},
		{"two of type 4", head(4, 0) + head(4, 0), api.ErrMalformed, true},
		{"too many", strings.Repeat(head(1, 0), 1030), api.ErrLarge, true},
		{"an end within a head", "\x01\x00", api.ErrMalformed, false},
		{"an end within a Body", head(1, 9) + "12345678", api.ErrMalformed, false},
		{"an end ahead of the last block", "", api.ErrMalformed, false},
	}
}

// Two faults in one text: the first that is come to is told. STREAMINFO's own is told as soon as it was read.
func TestTwoFaults(t *testing.T) {
	start := head(0, 34) + exampleText
	for _, a := range faults() {
		refuses(t, a.what, start+a.s, a.want)
		refuses(t, a.what, start+head(1, 1)+"x"+a.s, a.want)
		if !a.whole {
			continue
		}
		for _, b := range faults() {
			refuses(t, a.what+", "+b.what, start+a.s+b.s, a.want)
		}
	}
	for _, c := range edgesOfInfo() {
		if c.want == api.OK {
			continue
		}
		s := infoText(with(partOf(c.name), c.n))
		refuses(t, c.name, head(128, 34)+s, c.want)
		for _, b := range faults() {
			refuses(t, c.name+", "+b.what, head(0, 34)+s+b.s, c.want)
		}
		for n := range 34 {
			refuses(t, c.name+", cut off", head(0, 34)+s[:n], api.ErrMalformed)
		}
		refuses(t, c.name+", as the second", start+head(128, 34)+s, api.ErrMalformed)
		refuses(t, c.name+", and a byte more", head(128, 35)+s+"x", api.ErrMalformed)
	}
}

// Blocks that may be, with a byte changed, cut out or put in.
func TestParseOfAnyTexts(t *testing.T) {
	r := numbers(1333)
	seen := map[api.Errno]int{}
	for range 20000 {
		s := text(r.blocks(5)...)
		at := r.below(len(s))
		switch r.below(5) {
		case 0:
			s = s[:at] + s[at+1:]
		case 1:
			s = s[:at] + r.text(1) + s[at:]
		case 2:
			s = swapped(s, r.below(min(len(s), 60)), r.text(1))
		case 3:
			s = swapped(s, at, string([]byte{s[at] ^ 1<<r.below(8)}))
		case 4:
			s = r.text(r.below(80))
		}
		seen[parses(t, s)]++
	}
	for e, n := range map[api.Errno]int{api.OK: 5000, api.ErrMalformed: 3000, api.ErrUnsupported: 100, api.ErrLarge: 100} {
		if seen[e] < n {
			t.Errorf("error %d was seen %d times alone", e, seen[e])
		}
	}
}

// Each byte of some blocks changed in each of its bits.
func TestEachByteChanged(t *testing.T) {
	r := numbers(1334)
	s := text(first(), api.Block{Type: 3, Body: r.text(18)}, api.Block{Type: 4, Body: "c"}, api.Block{Type: 6, Body: r.picture(1, 0, 2)}, api.Block{Type: 1, Body: "12"}) + r.text(30)
	for at := range len(s) {
		for b := range 256 {
			parses(t, swapped(s, at, string([]byte{byte(b)})))
		}
	}
}

func TestBesideAnErrorIsNothing(t *testing.T) {
	for _, s := range []string{"", "\x80\x00\x00\x22", text(first(), first()), text(first(), api.Block{Type: 1}, api.Block{Type: 127}), text(many(1025)...)} {
		if l, n, e := meta.Parse(s); len(l) != 0 || n != 0 || e == api.OK {
			t.Errorf("Parse(%s): %s %d %d", short(s), short(l), n, e)
		}
	}
}
