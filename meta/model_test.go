package meta_test

import (
	"encoding/binary"
	"fmt"
	"slices"
	"strconv"
	"strings"
	"testing"

	"lacquer/api"
	"lacquer/meta"
)

// The tests hold the package against the chapter's words spelt out: STREAMINFO on texts of digits '0' and '1', all else byte by byte, place by place.

// digits is the width lowest bits of n.
func digits(n, width int) string {
	d := make([]byte, width)
	for i := range d {
		d[width-1-i] = '0' + byte(n&1)
		n >>= 1
	}
	return string(d)
}

// packed is digits of whole bytes as a text.
func packed(d string) string {
	var b []byte
	for ; d != ""; d = d[8:] {
		n, _ := strconv.ParseUint(d[:8], 2, 8)
		b = append(b, byte(n))
	}
	return string(b)
}

// part is a number of STREAMINFO: its digits' place, what is taken off it, and where a StreamInfo has it.
type part struct {
	name     string
	from, to int
	less     int
	of       func(i *api.StreamInfo) *int
}

// parts are STREAMINFO's numbers, their places counted by hand.
func parts() []part {
	return []part{
		{"MinBlock", 0, 16, 0, func(i *api.StreamInfo) *int { return &i.MinBlock }},
		{"MaxBlock", 16, 32, 0, func(i *api.StreamInfo) *int { return &i.MaxBlock }},
		{"MinFrame", 32, 56, 0, func(i *api.StreamInfo) *int { return &i.MinFrame }},
		{"MaxFrame", 56, 80, 0, func(i *api.StreamInfo) *int { return &i.MaxFrame }},
		{"Rate", 80, 100, 0, func(i *api.StreamInfo) *int { return &i.Rate }},
		{"Channels", 100, 103, 1, func(i *api.StreamInfo) *int { return &i.Channels }},
		{"Width", 103, 108, 1, func(i *api.StreamInfo) *int { return &i.Width }},
		{"Samples", 108, 144, 0, func(i *api.StreamInfo) *int { return &i.Samples }},
	}
}

// infoText is i as STREAMINFO, of each number its lowest bits.
func infoText(i api.StreamInfo) string {
	var d strings.Builder
	for _, p := range parts() {
		d.WriteString(digits(*p.of(&i)-p.less, p.to-p.from))
	}
	return packed(d.String()) + i.Digest
}

// infoModel is what Info answers.
func infoModel(s string) (api.StreamInfo, api.Errno) {
	if len(s) != 34 {
		return api.StreamInfo{}, api.ErrMalformed
	}
	var d strings.Builder
	for _, b := range []byte(s) {
		fmt.Fprintf(&d, "%08b", b)
	}
	i := api.StreamInfo{Digest: s[18:]}
	for _, p := range parts() {
		n, _ := strconv.ParseInt(d.String()[p.from:p.to], 2, 64)
		*p.of(&i) = int(n) + p.less
	}
	if !(i.MinBlock >= 16 && i.MinBlock <= i.MaxBlock && i.Rate != 0) {
		return api.StreamInfo{}, api.ErrMalformed
	}
	if i.Width < 4 || i.Width > 24 || i.MaxBlock > 4608 || i.Rate > 655350 {
		return api.StreamInfo{}, api.ErrUnsupported
	}
	if i.Samples > 1<<20 {
		return api.StreamInfo{}, api.ErrLarge
	}
	return i, api.OK
}

// layInfoModel is what LayInfo answers: the text that would be laid, if Info takes it, and tells i of it.
func layInfoModel(i api.StreamInfo) (string, api.Errno) {
	s := infoText(i)
	if j, e := infoModel(s); e != api.OK || i != j {
		return "", api.ErrRecipe
	}
	return s, api.OK
}

// cueEnd is where a CUESHEET ends, by its numbers; -1, if it has none there.
func cueEnd(s string) int {
	if len(s) < 396 || s[395] < 1 || s[395] > 100 {
		return -1
	}
	at := 396
	for track := 0; track < int(s[395]); track++ {
		if at+36 > len(s) {
			return -1
		}
		at += 36 + 12*int(s[at+35])
	}
	return at
}

// pictureEnd is where a PICTURE ends, by its lengths; -1, if it has none there.
func pictureEnd(s string) int {
	at := 4
	for _, behind := range []int{0, 16, 0} {
		if at+4 > len(s) {
			return -1
		}
		at += 4 + int(binary.BigEndian.Uint32([]byte(s[at:at+4]))) + behind
	}
	return at
}

// checkModel is what Check answers.
func checkModel(b api.Block) api.Errno {
	right := true
	switch b.Type {
	case 0:
		if _, e := infoModel(b.Body); len(b.Body) < 1<<24 {
			return e
		}
	case 2:
		right = len(b.Body) > 3
	case 3:
		right = len(b.Body)/18*18 == len(b.Body)
	case 5:
		right = cueEnd(b.Body) == len(b.Body)
	case 6:
		right = pictureEnd(b.Body) == len(b.Body)
	}
	if !right || b.Type < 0 || b.Type > 126 || len(b.Body) > 1<<24-1 {
		return api.ErrMalformed
	}
	return api.OK
}

// parseModel is what Parse answers.
func parseModel(s string) ([]api.Block, int, api.Errno) {
	var l []api.Block
	types := map[int]int{}
	at := 0
	for {
		if at+4 > len(s) {
			return nil, 0, api.ErrMalformed
		}
		end := at + 4 + int(s[at+1])*65536 + int(s[at+2])*256 + int(s[at+3])
		if end > len(s) {
			return nil, 0, api.ErrMalformed
		}
		b := api.Block{Type: int(s[at] & 127), Body: s[at+4 : end]}
		types[b.Type]++
		if l == nil && b.Type != 0 || types[0] > 1 || b.Type == 127 || types[4] > 1 {
			return nil, 0, api.ErrMalformed
		}
		if len(l) == 1024 {
			return nil, 0, api.ErrLarge
		}
		if e := checkModel(b); e != api.OK {
			return nil, 0, e
		}
		l = append(l, b)
		if s[at] > 127 {
			return l, end, api.OK
		}
		at = end
	}
}

// text is blocks one behind the other, be they right or not: of each number its lowest bits.
func text(l ...api.Block) string {
	var s []byte
	for i, b := range l {
		first := byte(b.Type) & 127
		if i == len(l)-1 {
			first |= 128
		}
		n := len(b.Body)
		s = append(append(s, first, byte(n>>16), byte(n>>8), byte(n)), b.Body...)
	}
	return string(s)
}

// buildModel is what Build answers: the text that would be laid, if it is told as l.
func buildModel(l []api.Block) (string, api.Errno) {
	s := text(l...)
	m, n, e := parseModel(s)
	if e != api.OK || n != len(s) || !slices.Equal(l, m) {
		return "", api.ErrRecipe
	}
	return s, api.OK
}

// short is what is told of a thing, cut off where it is long.
func short(v any) string {
	s := fmt.Sprintf("%+q", []any{v})
	return s[:min(len(s), 400)]
}

// isInfo fails, unless Info tells what the model tells; it tells the error.
func isInfo(t *testing.T, s string) api.Errno {
	t.Helper()
	want, wanted := infoModel(s)
	if got, e := meta.Info(s); got != want || e != wanted {
		t.Fatalf("Info(%s): %s, error %d, not %s, %d", short(s), short(got), e, short(want), wanted)
	}
	return wanted
}

// isLayInfo fails, unless LayInfo tells what the model tells; it tells the error.
func isLayInfo(t *testing.T, i api.StreamInfo) api.Errno {
	t.Helper()
	want, wanted := layInfoModel(i)
	if got, e := meta.LayInfo(i); got != want || e != wanted {
		t.Fatalf("LayInfo(%s): %s, error %d, not %s, %d", short(i), short(got), e, short(want), wanted)
	}
	return wanted
}

// isCheck fails, unless Check tells this error, and the model, too.
func isCheck(t *testing.T, what string, b api.Block, want api.Errno) {
	t.Helper()
	if e := meta.Check(b); e != want || checkModel(b) != want {
		t.Fatalf("%s: Check(%s) of %d bytes: error %d, not %d; the model: %d", what, short(b), len(b.Body), e, want, checkModel(b))
	}
}

// checks fails, unless Check tells what the model tells; it tells the error.
func checks(t *testing.T, b api.Block) api.Errno {
	t.Helper()
	e := checkModel(b)
	isCheck(t, "any", b, e)
	return e
}

// parses fails, unless Parse tells what the model tells; it tells the error.
func parses(t *testing.T, s string) api.Errno {
	t.Helper()
	want, used, wanted := parseModel(s)
	got, n, e := meta.Parse(s)
	if e != wanted || n != used || !slices.Equal(got, want) {
		t.Fatalf("Parse(%s): %s, %d, error %d, not %s, %d, %d", short(s), short(got), n, e, short(want), used, wanted)
	}
	return e
}

// isParse fails, unless Parse tells just these blocks and their length, and the model, too.
func isParse(t *testing.T, s string, want []api.Block, used int) {
	t.Helper()
	got, n, e := meta.Parse(s)
	if e != api.OK || n != used || !slices.Equal(got, want) {
		t.Fatalf("Parse(%s): %s, %d, error %d, not %s, %d", short(s), short(got), n, e, short(want), used)
	}
	parses(t, s)
}

// refuses fails, unless Parse answers this error and nothing beside it, and the model says so, too.
func refuses(t *testing.T, what, s string, want api.Errno) {
	t.Helper()
	if e := parses(t, s); e != want {
		t.Fatalf("%s: Parse(%s): error %d, not %d", what, short(s), e, want)
	}
}

// builds fails, unless Build tells what the model tells; it tells the error.
func builds(t *testing.T, l []api.Block) api.Errno {
	t.Helper()
	want, wanted := buildModel(l)
	if got, e := meta.Build(l); got != want || e != wanted {
		t.Fatalf("Build(%s): %s, error %d, not %s, %d", short(l), short(got), e, short(want), wanted)
	}
	return wanted
}

// isBuild fails, unless Build tells this error (OK: a text), and the model says so, too.
func isBuild(t *testing.T, what string, l []api.Block, want api.Errno) {
	t.Helper()
	if e := builds(t, l); e != want {
		t.Fatalf("%s: Build(%s): error %d, not %d", what, short(l), e, want)
	}
}

// numbers is a fixed row of numbers that look like chance (SplitMix64).
type numbers uint64

func (r *numbers) next() uint64 {
	*r += 0x9e3779b97f4a7c15
	x := uint64(*r)
	x = (x ^ x>>30) * 0xbf58476d1ce4e5b9
	x = (x ^ x>>27) * 0x94d049bb133111eb
	return x ^ x>>31
}

func (r *numbers) below(n int) int { return int(r.next() % uint64(n)) }

// between is a number from one to another, these among them; each of the two as likely as all others together.
func (r *numbers) between(from, to int) int {
	switch r.below(3) {
	case 0:
		return from
	case 1:
		return to
	}
	return from + r.below(to-from+1)
}

func (r *numbers) text(n int) string {
	b := make([]byte, n)
	for i := range b {
		b[i] = byte(r.next())
	}
	return string(b)
}

// info is a StreamInfo that may be.
func (r *numbers) info() api.StreamInfo {
	i := api.StreamInfo{
		MaxBlock: r.between(16, 4608),
		MinFrame: r.between(0, 1<<24-1),
		MaxFrame: r.between(0, 1<<24-1),
		Rate:     r.between(1, 655350),
		Channels: r.between(1, 8),
		Width:    r.between(4, 24),
		Samples:  r.between(0, 1<<20),
		Digest:   r.text(16),
	}
	i.MinBlock = r.between(16, i.MaxBlock)
	return i
}

// cueSheet is one of tracks with so many indexes each, all other bytes being any.
func (r *numbers) cueSheet(indexes ...int) string {
	s := r.text(395) + string([]byte{byte(len(indexes))})
	for _, n := range indexes {
		s += r.text(35) + string([]byte{byte(n)}) + r.text(12*n)
	}
	return s
}

// picture is one of texts of these lengths, all other bytes being any.
func (r *numbers) picture(media, description, data int) string {
	return r.text(4) + be(media) + r.text(media) + be(description) + r.text(description) + r.text(16) + be(data) + r.text(data)
}

// be is n in 4 bytes.
func be(n int) string {
	return string(binary.BigEndian.AppendUint32(nil, uint32(n)))
}

// block is one that may stand behind STREAMINFO.
func (r *numbers) block() api.Block {
	b := api.Block{Type: 1 + r.below(10)}
	if r.below(4) == 0 {
		b.Type = 7 + r.below(120)
	}
	switch b.Type {
	case 2:
		b.Body = r.text(4 + r.below(6))
	case 3:
		b.Body = r.text(18 * r.below(4))
	case 5:
		indexes := make([]int, 1+r.below(4))
		for i := range indexes {
			indexes[i] = r.below(3)
		}
		b.Body = r.cueSheet(indexes...)
	case 6:
		b.Body = r.picture(r.below(5), r.below(5), r.below(9))
	default:
		b.Body = r.text(r.below(9))
	}
	return b
}

// blocks are some that may stand: STREAMINFO and at most so many more.
func (r *numbers) blocks(more int) []api.Block {
	l := []api.Block{{Body: infoText(r.info())}}
	comments := 0
	for range r.below(more + 1) {
		b := r.block()
		if b.Type == 4 {
			comments++
		}
		if b.Type != 4 || comments == 1 {
			l = append(l, b)
		}
	}
	return l
}

// normal is a StreamInfo that is far from all edges.
func normal() api.StreamInfo {
	return api.StreamInfo{MinBlock: 1152, MaxBlock: 4096, MinFrame: 14, MaxFrame: 9000, Rate: 44100, Channels: 2, Width: 16, Samples: 88200, Digest: "0123456789abcdef"}
}

// first is a STREAMINFO that may be.
func first() api.Block {
	return api.Block{Body: infoText(normal())}
}

// swapped is s with another text at a place.
func swapped(s string, at int, with string) string {
	return s[:at] + with + s[at+len(with):]
}
