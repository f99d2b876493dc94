package page

import (
	"iter"

	"lacquer/api"
)

const (
	fullLace = 255 // behind it the packet goes on
	maxLaces = 255 // of a page
)

// Lace is the laces of the pages of packets that are so long, at most so many on a page.
func Lace(sizes []int, most int) [][]int {
	most = min(max(most, 1), maxLaces)
	first := min(1, len(sizes))
	return append(dealt(sizes[:first], most), dealt(sizes[first:], most)...)
}

// dealt is the laces of packets, dealt out to pages, each of which takes as many as it may.
func dealt(sizes []int, most int) [][]int {
	var pages [][]int
	var page []int
	for lace := range lacesFor(sizes) {
		if len(page) == most {
			pages = append(pages, page)
			page = nil
		}
		page = append(page, lace)
	}
	if page != nil {
		pages = append(pages, page)
	}
	return pages
}

// lacesFor goes over the laces of packets that are so long.
func lacesFor(sizes []int) iter.Seq[int] {
	return func(yield func(int) bool) {
		for _, size := range sizes {
			rest := max(size, 0)
			for ; rest >= fullLace; rest -= fullLace {
				if !yield(fullLace) {
					return
				}
			}
			if !yield(rest) {
				return
			}
		}
	}
}

// lacesOf goes over the laces of pages, one page behind the other.
func lacesOf(l []api.Page) iter.Seq[int] {
	return func(yield func(int) bool) {
		for _, p := range l {
			for _, lace := range p.Laces {
				if !yield(lace) {
					return
				}
			}
		}
	}
}

// lacesIn is bytes as laces.
func lacesIn(s string) []int {
	laces := make([]int, len(s))
	for i := range laces {
		laces[i] = int(s[i])
	}
	return laces
}

// layLaces is laces as bytes.
func layLaces(laces []int) string {
	s := make([]byte, len(laces))
	for i, lace := range laces {
		s[i] = byte(lace)
	}
	return string(s)
}

// total is how many bytes the laces of a page ask for.
func total(laces []int) int {
	n := 0
	for _, lace := range laces {
		n += lace
	}
	return n
}
