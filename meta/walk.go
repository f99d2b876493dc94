package meta

import "lacquer/bytes"

// walk goes through a text from its beginning on. Once it was to go past the end it has failed, and tells nothing more, so that one who reads many parts need ask only behind the last.
type walk struct {
	rest   string
	failed bool
}

// take is the next n bytes.
func (w *walk) take(n int) string {
	if w.failed || n > len(w.rest) {
		w.failed = true
		return ""
	}
	s := w.rest[:n]
	w.rest = w.rest[n:]
	return s
}

// number is the next number, in so many bytes.
func (w *walk) number(width int) int {
	return bytes.FromBe(w.take(width))
}

// text is the next text, behind its length.
func (w *walk) text() string {
	return w.take(w.number(textLength))
}

// isAtEnd says whether the walk has come to the end of the text, and not past it.
func (w *walk) isAtEnd() bool {
	return !w.failed && w.rest == ""
}
