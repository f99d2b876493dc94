package page_test

import (
	"encoding/binary"
	"fmt"
	"reflect"
	"slices"
	"strings"
	"testing"

	"lacquer/api"
	"lacquer/page"
)

// The tests hold the package against the chapter's words spelt out, place by place; the sum is worked out bit by bit.

// crc is the sum of s: the rest that the polynomial leaves of it.
func crc(s string) uint32 {
	var c uint32
	for i := range len(s) {
		c ^= uint32(s[i]) << 24
		for range 8 {
			if c>>31 == 1 {
				c = c<<1 ^ 0x04C11DB7
			} else {
				c <<= 1
			}
		}
	}
	return c
}

// summed is a page with the sum that it must have.
func summed(s string) string {
	b := []byte(s)
	copy(b[22:26], "\x00\x00\x00\x00")
	binary.LittleEndian.PutUint32(b[22:26], crc(string(b)))
	return string(b)
}

// lay is a page as bytes, be it right or not: of each number its lowest bits.
func lay(p api.Page, body string) string {
	b := []byte("OggS\x00")
	b = append(b, byte(p.Flags))
	b = binary.LittleEndian.AppendUint64(b, uint64(p.Granule))
	b = binary.LittleEndian.AppendUint32(b, uint32(p.Serial))
	b = binary.LittleEndian.AppendUint32(b, uint32(p.Seq))
	b = append(b, 0, 0, 0, 0, byte(len(p.Laces)))
	for _, n := range p.Laces {
		b = append(b, byte(n))
	}
	return summed(string(b) + body)
}

// texts is pages as bytes, one text each, be they right or not: the packets are cut as the laces say, as far as they go.
func texts(l []api.Page, packets []string) []string {
	rest := strings.Join(packets, "")
	var all []string
	for _, p := range l {
		n := 0
		for _, lace := range p.Laces {
			n += int(byte(lace))
		}
		n = min(n, len(rest))
		all = append(all, lay(p, rest[:n]))
		rest = rest[n:]
	}
	return all
}

func text(l []api.Page, packets []string) string {
	return strings.Join(texts(l, packets), "")
}

// ends is where the laces and the body of the page end with which s begins; -1, if it ends within it.
func ends(s string) (int, int) {
	if len(s) < 27 || len(s) < 27+int(s[26]) {
		return -1, -1
	}
	laces := 27 + int(s[26])
	body := laces
	for _, n := range []byte(s[27:laces]) {
		body += int(n)
	}
	if len(s) < body {
		return -1, -1
	}
	return laces, body
}

// parseModel is what Parse answers.
func parseModel(s string) ([]api.Page, []string, api.Errno) {
	var l []api.Page
	var packets []string
	var open *strings.Builder
	fail := func(e api.Errno) ([]api.Page, []string, api.Errno) { return nil, nil, e }
	if s == "" {
		return fail(api.ErrMalformed)
	}
	for s != "" {
		laces, body := ends(s)
		if body < 0 || s[:4] != "OggS" || s[4] != 0 || s[5] > 7 || summed(s[:body]) != s[:body] {
			return fail(api.ErrMalformed)
		}
		b := []byte(s)
		p := api.Page{Flags: int(b[5]), Granule: int(int64(binary.LittleEndian.Uint64(b[6:14]))), Serial: int(binary.LittleEndian.Uint32(b[14:18])), Seq: int(binary.LittleEndian.Uint32(b[18:22]))}
		if p.Granule < -1 {
			return fail(api.ErrMalformed)
		}
		if len(l) == 65536 {
			return fail(api.ErrLarge)
		}
		if l != nil && l[0].Serial != p.Serial {
			return fail(api.ErrUnsupported)
		}
		if p.Seq != len(l) || p.Flags/2%2 == 1 != (l == nil) || p.Flags%2 == 1 != (open != nil) {
			return fail(api.ErrMalformed)
		}
		data := s[laces:body]
		for _, n := range b[27:laces] {
			p.Laces = append(p.Laces, int(n))
			if open == nil {
				open = new(strings.Builder)
			}
			open.WriteString(data[:n])
			data = data[n:]
			if n != 255 {
				packets = append(packets, open.String())
				open = nil
			}
		}
		l = append(l, p)
		s = s[body:]
	}
	for k, p := range l {
		if p.Flags/4 == 1 != (k == len(l)-1) {
			return fail(api.ErrMalformed)
		}
	}
	if open != nil {
		return fail(api.ErrMalformed)
	}
	return l, packets, api.OK
}

// packetsModel is what Packets answers: each packet is as long as its laces together, the last of which is the first below 255.
func packetsModel(l []api.Page) ([]int, api.Errno) {
	var all []int
	for _, p := range l {
		all = append(all, p.Laces...)
	}
	if slices.ContainsFunc(all, func(n int) bool { return n < 0 || n > 255 }) {
		return nil, api.ErrRecipe
	}
	var sizes []int
	for len(all) > 0 {
		last := slices.IndexFunc(all, func(n int) bool { return n < 255 })
		if last < 0 {
			return nil, api.ErrRecipe
		}
		sizes = append(sizes, 255*last+all[last])
		all = all[last+1:]
	}
	return sizes, api.OK
}

// buildModel is what Build answers: the text that would be laid, if these pages and packets are told of it.
func buildModel(l []api.Page, packets []string) (string, api.Errno) {
	if sizes, e := packetsModel(l); e != api.OK || len(sizes) != len(packets) {
		return "", api.ErrRecipe
	}
	s := text(l, packets)
	m, q, e := parseModel(s)
	if e != api.OK || !samePages(l, m) || !slices.Equal(packets, q) {
		return "", api.ErrRecipe
	}
	return s, api.OK
}

// laceModel is what Lace answers.
func laceModel(sizes []int, most int) [][]int {
	most = max(1, min(255, most))
	var pages [][]int
	for k := 0; k < len(sizes); {
		next := len(sizes)
		if k == 0 {
			next = 1
		}
		var all []int
		for ; k < next; k++ {
			size := max(0, sizes[k])
			all = append(append(all, slices.Repeat([]int{255}, size/255)...), size%255)
		}
		for from := 0; from < len(all); from += most {
			pages = append(pages, slices.Clone(all[from:min(from+most, len(all))]))
		}
	}
	return pages
}

func samePages(a, b []api.Page) bool {
	return slices.EqualFunc(a, b, func(p, q api.Page) bool {
		same := slices.Equal(p.Laces, q.Laces)
		p.Laces, q.Laces = nil, nil
		return same && reflect.DeepEqual(p, q)
	})
}

// short is what is told of a thing, cut off where it is long.
func short(v ...any) string {
	s := fmt.Sprintf("%+q", v)
	return s[:min(len(s), 500)]
}

// parses fails, unless Parse tells what the model tells; it tells the error.
func parses(t *testing.T, s string) api.Errno {
	t.Helper()
	l, packets, wanted := parseModel(s)
	m, q, e := page.Parse(s)
	if e != wanted || !samePages(l, m) || !slices.Equal(packets, q) {
		t.Fatalf("Parse(%s): %s, error %d, not %s, %d", short(s), short(m, q), e, short(l, packets), wanted)
	}
	return e
}

// isParse fails, unless Parse tells just these pages and packets, and the model, too.
func isParse(t *testing.T, what, s string, l []api.Page, packets []string) {
	t.Helper()
	m, q, e := page.Parse(s)
	if e != api.OK || !samePages(l, m) || !slices.Equal(packets, q) {
		t.Fatalf("%s: Parse(%s): %s, error %d, not %s", what, short(s), short(m, q), e, short(l, packets))
	}
	parses(t, s)
}

// refuses fails, unless Parse answers this error and nothing beside it, and the model says so, too.
func refuses(t *testing.T, what, s string, want api.Errno) {
	t.Helper()
	refusesLong(t, what, s, want)
	parses(t, s)
}

// refusesLong does not ask the model, which takes its time over a long text.
func refusesLong(t *testing.T, what, s string, want api.Errno) {
	t.Helper()
	if l, packets, e := page.Parse(s); e != want || len(l) > 0 || len(packets) > 0 {
		t.Fatalf("%s: Parse(%s): %s, error %d, not %d", what, short(s), short(l, packets), e, want)
	}
}

// builds fails, unless Build tells what the model tells; it tells the error.
func builds(t *testing.T, l []api.Page, packets []string) api.Errno {
	t.Helper()
	want, wanted := buildModel(l, packets)
	if got, e := page.Build(l, packets); got != want || e != wanted {
		t.Fatalf("Build(%s): %s, error %d, not %s, %d", short(l, packets), short(got), e, short(want), wanted)
	}
	return wanted
}

// isBuild fails, unless Build tells this error (OK: a text), and the model says so, too.
func isBuild(t *testing.T, what string, l []api.Page, packets []string, want api.Errno) {
	t.Helper()
	if e := builds(t, l, packets); e != want {
		t.Fatalf("%s: Build(%s): error %d, not %d", what, short(l, packets), e, want)
	}
}

// wrong fails, unless Build answers ErrRecipe.
func wrong(t *testing.T, what string, l []api.Page, packets []string) {
	t.Helper()
	isBuild(t, what, l, packets, api.ErrRecipe)
}

// isLace fails, unless Lace tells just this, and the model, too.
func isLace(t *testing.T, sizes []int, most int, want ...[]int) {
	t.Helper()
	if got := page.Lace(sizes, most); !slices.EqualFunc(got, want, slices.Equal) {
		t.Fatalf("Lace(%v; %d): %v, not %v", sizes, most, got, want)
	}
	laces(t, sizes, most)
}

// laces fails, unless Lace tells what the model tells.
func laces(t *testing.T, sizes []int, most int) {
	t.Helper()
	got, want := page.Lace(sizes, most), laceModel(sizes, most)
	if !slices.EqualFunc(got, want, slices.Equal) {
		t.Fatalf("Lace(%v; %d): %v, not %v", sizes, most, got, want)
	}
}

// isPackets fails, unless Packets tells just this, and the model, too.
func isPackets(t *testing.T, l []api.Page, want []int, wanted api.Errno) {
	t.Helper()
	if got, e := page.Packets(l); e != wanted || !slices.Equal(got, want) {
		t.Fatalf("Packets(%s): %v, error %d, not %v, %d", short(l), got, e, want, wanted)
	}
	cutsPackets(t, l)
}

// cutsPackets fails, unless Packets tells what the model tells; it tells the error.
func cutsPackets(t *testing.T, l []api.Page) api.Errno {
	t.Helper()
	want, wanted := packetsModel(l)
	if got, e := page.Packets(l); e != wanted || !slices.Equal(got, want) {
		t.Fatalf("Packets(%s): %v, error %d, not %v, %d", short(l), got, e, want, wanted)
	}
	return wanted
}

// numbers is a fixed row of numbers that look like chance (SplitMix64).
type numbers uint64

func (r *numbers) next() uint64 {
	*r += 0x9e3779b97f4a7c15
	x := uint64(*r)
	x = (x ^ x>>30) * 0xbf58476d1ce4e5b9
	x = (x ^ x>>27) * 0x94d049bb133111eb
	return x ^ x>>31
}

func (r *numbers) below(n int) int { return int(r.next() % uint64(n)) }

// of is one of some numbers.
func (r *numbers) of(l ...int) int { return l[r.below(len(l))] }

func (r *numbers) text(n int) string {
	b := make([]byte, n)
	for i := range b {
		b[i] = byte(r.next())
	}
	return string(b)
}

func (r *numbers) texts(sizes ...int) []string {
	var l []string
	for _, n := range sizes {
		l = append(l, r.text(n))
	}
	return l
}

// sizes are lengths of at most so many packets.
func (r *numbers) sizes(most int) []int {
	var l []int
	for range r.below(most + 1) {
		l = append(l, r.of(0, 1, 254, 255, 256, 509, 510, 511, 765, r.below(20), r.below(20), r.below(600)))
	}
	return l
}

func (r *numbers) granule() int {
	return r.of(-1, -1, 0, 1, 255, 256, 1<<32-1, 1<<32, 1<<63-1, int(r.next()>>1), int(r.next()>>40))
}

// stream is pages that may be, with packets of these lengths; pages without laces are among them.
func (r *numbers) stream(sizes ...int) ([]api.Page, []string) {
	var rest []int
	for _, n := range laceModel(sizes, 255) {
		rest = append(rest, n...)
	}
	var cut [][]int
	for len(rest) > 0 || len(cut) == 0 {
		n := min(r.of(0, 1, 1, 2, 3, 254, 255, r.below(256)), len(rest))
		cut = append(cut, rest[:n:n])
		rest = rest[n:]
	}
	if r.below(4) == 0 {
		cut = append(cut, nil)
	}
	l := flagged(cut)
	serial := r.of(0, 1, 1<<32-1, int(r.next()>>32))
	for k := range l {
		l[k].Granule, l[k].Serial = r.granule(), serial
	}
	return l, r.texts(sizes...)
}

// flagged is pages with these laces, with the Flags and the Seq that they must have.
func flagged(cut [][]int) []api.Page {
	l := make([]api.Page, len(cut))
	open := 0
	for k := range l {
		l[k] = api.Page{Flags: open, Seq: k, Laces: cut[k]}
		if k == 0 {
			l[k].Flags += 2
		}
		if k == len(l)-1 {
			l[k].Flags += 4
		}
		for _, n := range cut[k] {
			open = 0
			if n == 255 {
				open = 1
			}
		}
	}
	return l
}

// changed is pages of which one is another one.
func changed(l []api.Page, at int, change func(p *api.Page)) []api.Page {
	m := slices.Clone(l)
	m[at].Laces = slices.Clone(m[at].Laces)
	change(&m[at])
	return m
}

// swapped is s with another text at a place.
func swapped(s string, at int, with string) string {
	return s[:at] + with + s[at+len(with):]
}
