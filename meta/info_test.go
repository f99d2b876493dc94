package meta_test

import (
	"math"
	"strings"
	"testing"

	"lacquer/api"
	"lacquer/meta"
)

// Promise 13.1.

// A STREAMINFO byte by byte, and what it says.
const exampleText = "\x00\x10\x12\x00\x00\x00\x0e\x00\x23\x28\x0a\xc4\x42\xf0\x00\x00\x00\x05\x00\x01\x02\x03\x04\x05\x06\x07\x08\x09\x0a\x0b\x0c\x0d\x0e\xff"

var example = api.StreamInfo{
	MinBlock: 16, MaxBlock: 4608, MinFrame: 14, MaxFrame: 9000, Rate: 44100, Channels: 2, Width: 16, Samples: 5,
	Digest: "\x00\x01\x02\x03\x04\x05\x06\x07\x08\x09\x0a\x0b\x0c\x0d\x0e\xff",
}

func TestExampleOfInfo(t *testing.T) {
	if i, e := meta.Info(exampleText); i != example || e != api.OK {
		t.Errorf("Info: %+v %d", i, e)
	}
	if s, e := meta.LayInfo(example); s != exampleText || e != api.OK {
		t.Errorf("LayInfo: % x %d", s, e)
	}
	isInfo(t, exampleText)
	isLayInfo(t, example)
}

// with is a normal StreamInfo with another number.
func with(p part, n int) api.StreamInfo {
	i := normal()
	*p.of(&i) = n
	return i
}

// Each number by itself, with each of its bits alone and all others: where it may be, it comes out and goes in, and changes no other.
func TestEachNumberByItself(t *testing.T) {
	for _, p := range parts() {
		seen := 0
		for bit := range p.to - p.from {
			for _, n := range []int{1<<bit + p.less, 1<<bit - 1 + p.less, 1<<bit + 1 + p.less} {
				i := with(p, n)
				want := isInfo(t, infoText(i))
				if e := isLayInfo(t, i); (e == api.OK) != (want == api.OK) {
					t.Fatalf("%s %d: errors %d, %d", p.name, n, want, e)
				}
				if want == api.OK {
					seen++
					isNumber(t, p, n)
				}
			}
		}
		if seen == 0 {
			t.Errorf("%s is never right", p.name)
		}
	}
}

// isNumber fails, unless a STREAMINFO with this number, laid bit by bit, is what is told and laid.
func isNumber(t *testing.T, p part, n int) {
	t.Helper()
	i := with(p, n)
	s := infoText(i)
	if j, e := meta.Info(s); e != api.OK || j != i {
		t.Fatalf("%s %d: Info: %+v %d", p.name, n, j, e)
	}
	if u, e := meta.LayInfo(i); e != api.OK || u != s {
		t.Fatalf("%s %d: LayInfo: % x %d", p.name, n, u, e)
	}
}

// edge is a number of STREAMINFO, and what Info says of it.
type edge struct {
	name string
	n    int
	want api.Errno
}

func edgesOfInfo() []edge {
	return []edge{
		{"MinBlock", 0, api.ErrMalformed},
		{"MinBlock", 15, api.ErrMalformed},
		{"MinBlock", 16, api.OK},
		{"MinBlock", 4095, api.OK},
		{"MinBlock", 4096, api.OK}, // MaxBlock
		{"MinBlock", 4097, api.ErrMalformed},
		{"MinBlock", 65535, api.ErrMalformed},
		{"MaxBlock", 0, api.ErrMalformed},
		{"MaxBlock", 1151, api.ErrMalformed},
		{"MaxBlock", 1152, api.OK}, // MinBlock
		{"MaxBlock", 1153, api.OK},
		{"MaxBlock", 4607, api.OK},
		{"MaxBlock", 4608, api.OK},
		{"MaxBlock", 4609, api.ErrUnsupported},
		{"MaxBlock", 65535, api.ErrUnsupported},
		{"MinFrame", 0, api.OK},
		{"MinFrame", 9001, api.OK}, // above MaxFrame
		{"MinFrame", 1<<24 - 1, api.OK},
		{"MaxFrame", 0, api.OK},
		{"MaxFrame", 1<<24 - 1, api.OK},
		{"Rate", 0, api.ErrMalformed},
		{"Rate", 1, api.OK},
		{"Rate", 655349, api.OK},
		{"Rate", 655350, api.OK},
		{"Rate", 655351, api.ErrUnsupported},
		{"Rate", 1<<20 - 1, api.ErrUnsupported},
		{"Channels", 1, api.OK},
		{"Channels", 8, api.OK},
		{"Width", 1, api.ErrUnsupported},
		{"Width", 3, api.ErrUnsupported},
		{"Width", 4, api.OK},
		{"Width", 24, api.OK},
		{"Width", 25, api.ErrUnsupported},
		{"Width", 32, api.ErrUnsupported},
		{"Samples", 0, api.OK},
		{"Samples", 1<<20 - 1, api.OK},
		{"Samples", 1 << 20, api.OK},
		{"Samples", 1<<20 + 1, api.ErrLarge},
		{"Samples", 1<<36 - 1, api.ErrLarge},
	}
}

// partOf is the part of that name.
func partOf(name string) part {
	for _, p := range parts() {
		if p.name == name {
			return p
		}
	}
	panic(name)
}

func TestEdgesOfInfo(t *testing.T) {
	for _, c := range edgesOfInfo() {
		i := with(partOf(c.name), c.n)
		if e := isInfo(t, infoText(i)); e != c.want {
			t.Errorf("%s %d: Info: %d, not %d", c.name, c.n, e, c.want)
		}
		lay := api.OK
		if c.want != api.OK {
			lay = api.ErrRecipe
		}
		if e := isLayInfo(t, i); e != lay {
			t.Errorf("%s %d: LayInfo: %d, not %d", c.name, c.n, e, lay)
		}
	}
	for n := 1; n <= 32; n++ {
		want := api.OK
		if n < 4 || n > 24 {
			want = api.ErrUnsupported
		}
		if e := isInfo(t, infoText(with(partOf("Width"), n))); e != want {
			t.Errorf("Width %d: %d", n, e)
		}
	}
}

func TestLengthsOfInfo(t *testing.T) {
	long := exampleText + exampleText + exampleText
	for n := range len(long) + 1 {
		want := api.ErrMalformed
		if n == 34 {
			want = api.OK
		}
		if e := isInfo(t, long[:n]); e != want {
			t.Errorf("%d bytes: %d", n, e)
		}
	}
	// A wrong length is told ahead of what would be told of the numbers.
	for _, i := range []api.StreamInfo{with(partOf("Width"), 25), with(partOf("Samples"), 1<<20+1)} {
		for _, s := range []string{infoText(i)[:33], infoText(i) + "\x00"} {
			if e := isInfo(t, s); e != api.ErrMalformed {
				t.Errorf("%d bytes: %d", len(s), e)
			}
		}
	}
}

// Each two faults at once: the one that the chapter names first is told, wherever it stands in the text.
func TestErrorsOfInfoInOrder(t *testing.T) {
	rank := map[api.Errno]int{api.ErrMalformed: 0, api.ErrUnsupported: 1, api.ErrLarge: 2, api.OK: 3}
	for _, a := range edgesOfInfo() {
		for _, b := range edgesOfInfo() {
			if a.name == b.name || a.name[3:] == "Block" && b.name[3:] == "Block" {
				continue // two that are one number, or hang on each other
			}
			i := with(partOf(a.name), a.n)
			*partOf(b.name).of(&i) = b.n
			want := a.want
			if rank[b.want] < rank[a.want] {
				want = b.want
			}
			if e := isInfo(t, infoText(i)); e != want {
				t.Errorf("%+v, %+v: %d, not %d", a, b, e, want)
			}
			isLayInfo(t, i)
		}
	}
	i := normal()
	i.MinBlock, i.MaxBlock = 4609, 4609
	if e := isInfo(t, infoText(i)); e != api.ErrUnsupported {
		t.Errorf("both above MaxBlock: %d", e)
	}
	i.MinBlock, i.MaxBlock = 5000, 4999
	if e := isInfo(t, infoText(i)); e != api.ErrMalformed {
		t.Errorf("both above MaxBlock, and turned round: %d", e)
	}
	i.MinBlock, i.MaxBlock = 15, 15
	if e := isInfo(t, infoText(i)); e != api.ErrMalformed {
		t.Errorf("both below 16: %d", e)
	}
}

// Each number at the greatest that its bits hold, one above, below 0 and far off, also where its lowest bits alone would be right.
func TestNumbersBeyondTheirBits(t *testing.T) {
	for _, p := range parts() {
		width := p.to - p.from
		greatest := 1<<width - 1 + p.less
		right := *p.of(new(normal()))
		for _, n := range []int{greatest + 1, p.less - 1, right + 1<<width, right - 1<<width, -right, right + 1<<62, right + math.MinInt, math.MaxInt, math.MinInt, math.MinInt + 1} {
			if e := isLayInfo(t, with(p, n)); e != api.ErrRecipe {
				t.Errorf("%s %d: %d", p.name, n, e)
			}
		}
		_, want := meta.Info(infoText(with(p, greatest)))
		if e := isLayInfo(t, with(p, greatest)); (e == api.OK) != (want == api.OK) {
			t.Errorf("%s %d: %d", p.name, greatest, e)
		}
	}
}

func TestDigests(t *testing.T) {
	for n := range 50 {
		i := normal()
		i.Digest = strings.Repeat("d", n)
		want := api.ErrRecipe
		if n == 16 {
			want = api.OK
		}
		if e := isLayInfo(t, i); e != want {
			t.Errorf("a Digest of %d bytes: %d", n, e)
		}
	}
	r := numbers(1311)
	for b := range 256 {
		i := normal()
		i.Digest = swapped(r.text(16), b%16, string([]byte{byte(b)}))
		if isLayInfo(t, i) != api.OK || isInfo(t, infoText(i)) != api.OK {
			t.Errorf("a Digest with a byte %d", b)
		}
	}
}

func TestAnyInfos(t *testing.T) {
	r := numbers(1312)
	seen := map[api.Errno]int{}
	for range 20000 {
		i := r.info()
		if isInfo(t, infoText(i)) != api.OK || isLayInfo(t, i) != api.OK {
			t.Fatalf("%+v is not taken", i)
		}
		s := infoText(i)
		s = swapped(s, r.below(34), r.text(1))
		seen[isInfo(t, s)]++
		seen[isInfo(t, r.text(34))]++
		p := parts()[r.below(8)]
		*p.of(&i) = int(r.next()) >> r.below(64)
		seen[isLayInfo(t, i)]++
	}
	for _, e := range []api.Errno{api.OK, api.ErrMalformed, api.ErrUnsupported, api.ErrLarge, api.ErrRecipe} {
		if seen[e] < 500 {
			t.Errorf("error %d was seen %d times alone", e, seen[e])
		}
	}
}

func TestNothing(t *testing.T) {
	if i, e := meta.Info(""); i != (api.StreamInfo{}) || e != api.ErrMalformed {
		t.Errorf("Info of nothing: %+v %d", i, e)
	}
	if s, e := meta.LayInfo(api.StreamInfo{}); s != "" || e != api.ErrRecipe {
		t.Errorf("LayInfo of nothing: %q %d", s, e)
	}
	if i, e := meta.Info(string(make([]byte, 34))); i != (api.StreamInfo{}) || e != api.ErrMalformed {
		t.Errorf("Info of noughts: %+v %d", i, e)
	}
}
