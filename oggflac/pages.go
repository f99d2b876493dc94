package oggflac

import "lacquer/api"

// What Flags say.
const (
	flagWithin = 1 // the page begins within a packet
	flagFirst  = 2
	flagLast   = 4
)

// What pages may have, as package page has it: one that is too large to be laid is held against these alone.
const (
	maxPages  = 1 << 16
	maxLaces  = 255
	maxSerial = 1<<32 - 1
)

const (
	pageHead  = 27  // bytes ahead of the laces
	fullLace  = 255 // behind it the packet goes on
	noGranule = -1
)

// head is what a page says ahead of its laces.
type head struct {
	flags, serial, seq, granule int
}

func headOf(p api.Page) head {
	return head{flags: p.Flags, serial: p.Serial, seq: p.Seq, granule: p.Granule}
}

// pages is the pages with these laces, which cut the plan's packets, and with the heads that they have to have.
func (x plan) pages(laces [][]int, serial int) []api.Page {
	l := make([]api.Page, len(laces))
	ended, isOpen := 0, false
	for k, row := range laces {
		l[k] = api.Page{Serial: serial, Seq: k, Granule: noGranule, Laces: row}
		l[k].Flags = flags(isOpen, k == 0, k == len(laces)-1)
		for _, lace := range row {
			isOpen = lace == fullLace
			if !isOpen {
				l[k].Granule = x.samples[ended]
				ended++
			}
		}
	}
	return l
}

// flags is the Flags that say this of a page.
func flags(isWithin, isFirst, isLast bool) int {
	n := 0
	if isWithin {
		n += flagWithin
	}
	if isFirst {
		n += flagFirst
	}
	if isLast {
		n += flagLast
	}
	return n
}

// areWithin says whether there may be so many pages, of one Serial, with so many laces each.
func areWithin(l []api.Page) bool {
	if len(l) > maxPages || l[0].Serial < 0 || l[0].Serial > maxSerial {
		return false
	}
	for _, p := range l {
		if len(p.Laces) > maxLaces {
			return false
		}
	}
	return true
}

// lacesOf is the laces of each page.
func lacesOf(l []api.Page) [][]int {
	laces := make([][]int, len(l))
	for k, p := range l {
		laces[k] = p.Laces
	}
	return laces
}

// sizeOf is how many bytes the pages have.
func sizeOf(l []api.Page) int {
	size := 0
	for _, p := range l {
		size += pageHead + len(p.Laces)
		for _, lace := range p.Laces {
			size += lace
		}
	}
	return size
}
