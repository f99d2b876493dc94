package aiff

import (
	"slices"
	"strings"

	"lacquer/api"
	"lacquer/bytes"
	"lacquer/riff"
)

const (
	outer     = "FORM"
	plainForm = "AIFF"
	namedForm = "AIFC" // its COMM names a compression
	fileHead  = 12     // bytes of a file ahead of its chunks
	outerEnd  = 4
	numberEnd = 8 // where the length in them ends
)

const (
	idComm = "COMM"
	idSsnd = "SSND"
	none   = -1 // the place of a chunk that is not there
)

// How SSND begins: an offset, a number that may be any; plainStart is one with both 0.
const (
	offsetEnd  = 4
	startSize  = 8
	plainStart = "\x00\x00\x00\x00\x00\x00\x00\x00"
)

// open is the form of the file s and its chunks, the samples still in them.
func open(s string) (a api.Aiff, e api.Errno) {
	if len(s) < fileHead || s[:outerEnd] != outer || !isForm(s[numberEnd:fileHead]) {
		return a, api.ErrUnsupported
	}
	if len(s) > api.MaxFile {
		return a, api.ErrLarge
	}
	if s[:fileHead] != headOf(s[numberEnd:fileHead], len(s)) {
		return a, api.ErrMalformed
	}
	a.Form = strings.Clone(s[numberEnd:fileHead])
	a.Chunks, e = riff.Chunks(s[fileHead:], true)
	return a, e
}

func isForm(s string) bool {
	return s == plainForm || s == namedForm
}

// headOf is what a file of the form and of so many bytes begins with.
func headOf(form string, size int) string {
	return outer + be(size-numberEnd, numberEnd-outerEnd) + form
}

// file is what is known of an AIFF file by its chunks, be the samples in them or not.
type file struct {
	sound
	ssnd int // the place of SSND among the chunks, or none
}

// look is what the form and the chunks of a tell.
func look(a api.Aiff) (file, api.Errno) {
	comm, comms := find(idComm, a.Chunks)
	ssnd, ssnds := find(idSsnd, a.Chunks)
	if !isForm(a.Form) || comms != 1 || ssnds > 1 {
		return file{}, api.ErrMalformed
	}
	said, e := soundOf(a.Form, a.Chunks[comm].Body)
	return file{sound: said, ssnd: ssnd}, e
}

// find is the place of the last chunk with the Id, or none, and how many have it.
func find(id string, l []api.Chunk) (at, count int) {
	at = none
	for i, c := range l {
		if c.Id == id {
			at = i
			count++
		}
	}
	return at, count
}

// cut takes the samples out of the chunks, and leaves these as the skeleton has them.
func (f file) cut(l []api.Chunk) (string, api.Errno) {
	samples := ""
	if f.ssnd != none {
		c := &l[f.ssnd]
		start, ok := startOf(c.Body)
		if !ok {
			return "", api.ErrMalformed
		}
		samples = c.Body[start:]
		// One who keeps the skeleton is not to keep the samples behind it.
		c.Body = strings.Clone(c.Body[:start])
	}
	if len(samples) != f.size() {
		return "", api.ErrMalformed
	}
	return samples, api.OK
}

// startOf is how many bytes stand ahead of the samples in SSND's Body; false, if they are not all there.
func startOf(body string) (int, bool) {
	if len(body) < startSize {
		return 0, false
	}
	start := startSize + bytes.FromBe(body[:offsetEnd])
	return start, start <= len(body)
}

// mayHold says whether the samples have a place in the chunks of a skeleton.
func (f file) mayHold(l []api.Chunk, samples string) bool {
	if f.ssnd == none {
		return samples == ""
	}
	body := l[f.ssnd].Body
	start, ok := startOf(body)
	return ok && start == len(body)
}

// filled is the chunks of a skeleton with the samples at their place.
func (f file) filled(l []api.Chunk, samples string) []api.Chunk {
	full := slices.Clone(l)
	if f.ssnd != none {
		full[f.ssnd].Body += samples
	}
	return full
}
