package riff

import (
	"lacquer/api"
	"lacquer/bytes"
)

// The lengths that fmt can have, and the tags that go with them.
const (
	shortFmt    = 16
	middleFmt   = 18
	longFmt     = 40
	plainTag    = 1
	extendedTag = 65534
)

// Where the parts of fmt's Body end, as far as they are looked at one by one.
const (
	tagEnd      = 2
	channelsEnd = 4
	rateEnd     = 8
	blockEnd    = 14
	widthEnd    = 16
	moreEnd     = 18 // the length of what fmt has more
	againEnd    = 20 // the width again
	speakersEnd = 24
)

// plainSamples is what fmt of 40 bytes ends with: that the samples are plain numbers.
const plainSamples = "\x01\x00\x00\x00\x00\x00\x10\x00\x80\x00\x00\xaa\x00\x38\x9b\x71"

// sound is what fmt says of the samples.
type sound struct {
	rate, channels, width int
}

// soundOf is what fmt of this Body says.
func soundOf(body string) (sound, api.Errno) {
	if len(body) < shortFmt {
		return sound{}, api.ErrMalformed
	}
	tag := bytes.FromLe(body[:tagEnd])
	if tag != plainTag && tag != extendedTag {
		return sound{}, api.ErrUnsupported
	}
	if tag != tagOf(len(body)) {
		return sound{}, api.ErrMalformed
	}
	a := sound{
		channels: bytes.FromLe(body[tagEnd:channelsEnd]),
		rate:     bytes.FromLe(body[channelsEnd:rateEnd]),
		width:    bytes.FromLe(body[blockEnd:widthEnd]),
	}
	if a.channels == 0 || a.rate == 0 || a.width == 0 {
		return sound{}, api.ErrMalformed
	}
	if !a.isSupported() {
		return sound{}, api.ErrUnsupported
	}
	if e := a.against(body); e != api.OK {
		return sound{}, e
	}
	return a, api.OK
}

// against is what speaks against a Body of fmt, of a length that goes with its tag, that says a.
func (a sound) against(body string) api.Errno {
	speakers := ""
	if len(body) == longFmt {
		speakers = body[againEnd:speakersEnd]
	}
	want := a.body(len(body), speakers)
	end := min(len(body), moreEnd)
	if body[:end] != want[:end] {
		return api.ErrMalformed
	}
	if body != want {
		return api.ErrUnsupported
	}
	return api.OK
}

// body is the Body of fmt, of a length that it can have; speakers are the 4 bytes of the longest that may be any.
func (a sound) body(length int, speakers string) string {
	s := le(tagOf(length), 2) + le(a.channels, 2) + le(a.rate, 4) +
		le(a.rate*a.block(), 4) + le(a.block(), 2) + le(a.width, 2)
	switch length {
	case middleFmt:
		s += le(0, 2)
	case longFmt:
		s += le(longFmt-moreEnd, 2) + le(a.width, 2) + speakers + plainSamples
	}
	return s
}

// plain is the Body of fmt that the program makes by itself.
func (a sound) plain() string {
	if a.channels <= 2 && a.width <= 16 {
		return a.body(shortFmt, "")
	}
	return a.body(longFmt, le(1<<a.channels-1, 4))
}

// tagOf is the tag that goes with a length of fmt, 0 if it can have no such length.
func tagOf(length int) int {
	switch length {
	case shortFmt, middleFmt:
		return plainTag
	case longFmt:
		return extendedTag
	}
	return 0
}

func (a sound) isSupported() bool {
	return a.channels <= api.MaxChannels && a.rate <= api.MaxRate && hasWidth(a.width)
}

// hasWidth says whether a WAV file can have samples of the width.
func hasWidth(width int) bool {
	return width == 8 || width == 16 || width == 24 || width == 32
}

// block is how many bytes a sample of all channels has.
func (a sound) block() int {
	return a.channels * a.width / 8
}

// layout is how samples stand in data's Body.
func (a sound) layout() api.Layout {
	return api.Layout{Unsigned: a.width == 8}
}

// le is n in width bytes, the lowest first; the numbers here fit theirs, so that no error is told.
func le(n, width int) string {
	s, _ := bytes.Le(n, width)
	return s
}
