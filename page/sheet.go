package page

import (
	"iter"
	"strings"

	"lacquer/api"
	"lacquer/bytes"
	"lacquer/sums"
)

// What stands ahead of a page's laces: its mark, and the places of its numbers.
const (
	mark      = "OggS\x00"
	flagsAt   = 5
	granuleAt = 6
	serialAt  = 14
	seqAt     = 18
	sumAt     = 22
	countAt   = 26
	headSize  = 27
)

const (
	numberWidth = 4 // bytes of Serial, of Seq, of the sum, of each half of Granule
	halfBits    = 8 * numberWidth
	half        = 1<<halfBits - 1
	oggKind     = 32 // of the sums of layer 3
)

// sheet is a page with its bytes.
type sheet struct {
	api.Page
	body string
}

// sheetsIn goes over the pages of s, up to its end or to the first one that is none.
func sheetsIn(s string) iter.Seq2[sheet, api.Errno] {
	return func(yield func(sheet, api.Errno) bool) {
		for rest := s; rest != ""; {
			x, size, e := read(rest)
			if !yield(x, e) || e != api.OK {
				return
			}
			rest = rest[size:]
		}
	}
}

// sheetsOf goes over the pages of l, each with as many bytes as its laces ask for of what its packets are together.
func sheetsOf(l []api.Page, together string) iter.Seq2[sheet, api.Errno] {
	return func(yield func(sheet, api.Errno) bool) {
		rest := together
		for _, p := range l {
			size := total(p.Laces)
			if !yield(sheet{p, rest[:size]}, api.OK) {
				return
			}
			rest = rest[size:]
		}
	}
}

// read is the page with which s begins, and how many bytes it has. What its numbers may be, and what page may stand behind which, is not asked here.
func read(s string) (sheet, int, api.Errno) {
	if len(s) < headSize || s[:len(mark)] != mark {
		return sheet{}, 0, api.ErrMalformed
	}
	lacesEnd := headSize + int(s[countAt])
	if len(s) < lacesEnd {
		return sheet{}, 0, api.ErrMalformed
	}
	laces := lacesIn(s[headSize:lacesEnd])
	end := lacesEnd + total(laces)
	if len(s) < end || sumOf(s[:sumAt], s[countAt:end]) != s[sumAt:countAt] {
		return sheet{}, 0, api.ErrMalformed
	}
	p := api.Page{
		Flags:   int(s[flagsAt]),
		Granule: granuleIn(s[granuleAt:serialAt]),
		Serial:  bytes.FromLe(s[serialAt:seqAt]),
		Seq:     bytes.FromLe(s[seqAt:sumAt]),
		Laces:   laces,
	}
	return sheet{p, s[lacesEnd:end]}, end, api.OK
}

// text is sheets as bytes.
func text(sheets []sheet) string {
	var s strings.Builder
	for _, x := range sheets {
		ahead := mark + le(x.Flags, 1) + layGranule(x.Granule) + le(x.Serial, numberWidth) + le(x.Seq, numberWidth)
		behind := le(len(x.Laces), 1) + layLaces(x.Laces) + x.body
		s.WriteString(ahead)
		s.WriteString(sumOf(ahead, behind))
		s.WriteString(behind)
	}
	return s.String()
}

// sumOf is a page's sum, of what stands ahead of it and behind it: as if it were 0 itself.
func sumOf(ahead, behind string) string {
	sum := sums.New(oggKind)
	sum.Add(ahead)
	sum.Add(le(0, numberWidth))
	sum.Add(behind)
	return le(sum.Value(), numberWidth)
}

// granuleIn reads two halves, for package bytes tells no number below 0.
func granuleIn(s string) int {
	return bytes.FromLe(s[numberWidth:])<<halfBits | bytes.FromLe(s[:numberWidth])
}

func layGranule(n int) string {
	return le(n&half, numberWidth) + le(n>>halfBits&half, numberWidth)
}

// le is a number that is known to fit.
func le(n, width int) string {
	s, _ := bytes.Le(n, width)
	return s
}
