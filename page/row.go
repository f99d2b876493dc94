package page

import (
	"iter"
	"strings"

	"lacquer/api"
)

// maxPages is the most that one stream may have.
const maxPages = 1 << 16

// What Flags say.
const (
	flagWithin = 1 // it begins within a packet
	flagFirst  = 2
	flagLast   = 4
	allFlags   = flagWithin | flagFirst | flagLast
)

// row is the pages that were come to so far, be they read or built.
type row struct {
	sheets []sheet
	isOpen bool // the last packet goes on
}

// collect is the pages that are gone over, if they may stand one behind the other.
func collect(pages iter.Seq2[sheet, api.Errno]) ([]sheet, api.Errno) {
	var r row
	for x, e := range pages {
		if e == api.OK {
			e = r.take(x)
		}
		if e != api.OK {
			return nil, e
		}
	}
	if !r.isWhole() {
		return nil, api.ErrMalformed
	}
	return r.sheets, api.OK
}

// take puts a page behind those that were come to.
func (r *row) take(x sheet) api.Errno {
	at := len(r.sheets)
	switch {
	case !mayBe(x.Page):
		return api.ErrMalformed
	case at == maxPages:
		return api.ErrLarge
	case at > 0 && x.Serial != r.sheets[0].Serial:
		return api.ErrUnsupported
	case x.Seq != at || has(x, flagFirst) != (at == 0) || has(x, flagWithin) != r.isOpen:
		return api.ErrMalformed
	}
	r.sheets = append(r.sheets, x)
	if count := len(x.Laces); count > 0 {
		r.isOpen = x.Laces[count-1] == fullLace
	}
	return api.OK
}

// isWhole says whether the pages are at their end: the last one alone says that it is, and no packet goes on.
func (r *row) isWhole() bool {
	last := len(r.sheets) - 1
	for at, x := range r.sheets {
		if has(x, flagLast) != (at == last) {
			return false
		}
	}
	return last >= 0 && !r.isOpen
}

// mayBe says whether a page may have these numbers; of its laces, how many they are.
func mayBe(p api.Page) bool {
	return p.Flags >= 0 && p.Flags <= allFlags && p.Granule >= -1 && p.Serial >= 0 && p.Serial <= half && len(p.Laces) <= maxLaces
}

func has(x sheet, flag int) bool {
	return x.Flags&flag != 0
}

// pagesOf is sheets without their bytes.
func pagesOf(sheets []sheet) []api.Page {
	var l []api.Page
	for _, x := range sheets {
		l = append(l, x.Page)
	}
	return l
}

// packetsOf is the packets of sheets.
func packetsOf(sheets []sheet) []string {
	var packets []string
	var open strings.Builder
	for _, x := range sheets {
		rest := x.body
		for _, lace := range x.Laces {
			open.WriteString(rest[:lace])
			rest = rest[lace:]
			if lace < fullLace {
				packets = append(packets, open.String())
				open.Reset()
			}
		}
	}
	return packets
}
