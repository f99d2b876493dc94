package aiff

import (
	"lacquer/api"
	"lacquer/bytes"
	"lacquer/pcm"
)

// Where the parts of COMM's Body end; that of an AIFF ends with the rate.
const (
	channelsEnd    = 2
	countEnd       = 6
	widthEnd       = 8
	rateEnd        = 18
	compressionEnd = 22
	textLengthEnd  = 23
)

// The compressions that leave the samples as they are.
const (
	highFirst = "NONE"
	lowFirst  = "sowt"
)

// sound is what COMM says of the samples.
type sound struct {
	rate, channels, width int
	count                 int  // samples of a channel
	low                   bool // the lowest byte of a sample stands first
}

// soundOf is what COMM of this Body says in a file of the form.
func soundOf(form, body string) (sound, api.Errno) {
	if !isWhole(form, body) {
		return sound{}, api.ErrMalformed
	}
	compression := compressionOf(form, body)
	if compression != highFirst && compression != lowFirst {
		return sound{}, api.ErrUnsupported
	}
	// It tells only rates that a PCM may have.
	rate, e := bytes.FromRate(body[widthEnd:rateEnd])
	if e != api.OK {
		return sound{}, e
	}
	a := sound{
		rate:     rate,
		channels: bytes.FromBe(body[:channelsEnd]),
		width:    bytes.FromBe(body[countEnd:widthEnd]),
		count:    bytes.FromBe(body[channelsEnd:countEnd]),
		low:      compression == lowFirst,
	}
	if e := a.against(); e != api.OK {
		return sound{}, e
	}
	return a, api.OK
}

// isWhole says whether COMM's Body has as many bytes as the form and its text ask for.
func isWhole(form, body string) bool {
	if form == plainForm {
		return len(body) == rateEnd
	}
	if len(body) < textLengthEnd {
		return false
	}
	size := textLengthEnd + bytes.FromBe(body[compressionEnd:textLengthEnd])
	return len(body) == size+size%2
}

// compressionOf is the compression that a whole Body of COMM names; an AIFF has none to name.
func compressionOf(form, body string) string {
	if form == plainForm {
		return highFirst
	}
	return body[rateEnd:compressionEnd]
}

// against is what speaks against the numbers of a, whose rate is right.
func (a sound) against() api.Errno {
	if a.channels == 0 {
		return api.ErrMalformed
	}
	if a.channels > api.MaxChannels || !hasWidth(a.width) {
		return api.ErrUnsupported
	}
	if a.count > api.MaxSamples {
		return api.ErrLarge
	}
	return api.OK
}

// hasWidth says whether an AIFF file can have samples of the width.
func hasWidth(width int) bool {
	return width == 8 || width == 16 || width == 24 || width == 32
}

// soundIn is what the COMM of an AIFF has to say of p.
func soundIn(p api.PCM) sound {
	return sound{rate: p.Rate, channels: p.Channels, width: p.Width, count: pcm.Len(p)}
}

// isOf says whether a is said of p, in whichever order its bytes stand.
func (a sound) isOf(p api.PCM) bool {
	a.low = false
	return a == soundIn(p)
}

// body is the Body of an AIFF's COMM; the numbers fit theirs, so that no error is told.
func (a sound) body() string {
	rate, _ := bytes.Rate(a.rate)
	return be(a.channels, 2) + be(a.count, 4) + be(a.width, 2) + rate
}

// size is how many bytes the samples have.
func (a sound) size() int {
	return a.count * a.channels * a.width / 8
}

// layout is how samples stand behind SSND's beginning.
func (a sound) layout() api.Layout {
	return api.Layout{Big: !a.low}
}

// pcm is the samples that these bytes are.
func (a sound) pcm(samples string) (api.PCM, api.Errno) {
	return pcm.Unpack(samples, a.rate, a.channels, a.width, a.layout())
}

// be is n, which fits, in width bytes, the highest first.
func be(n, width int) string {
	s, _ := bytes.Be(n, width)
	return s
}
