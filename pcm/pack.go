package pcm

import (
	"strings"

	"lacquer/api"
	"lacquer/bytes"
	"lacquer/digest"
)

// cell is how one sample stands in bytes.
type cell struct {
	width int // of the sample, in bits
	size  int // of the cell, in bytes
	how   api.Layout
}

// Pack is the samples of p as bytes.
func Pack(p api.PCM, how api.Layout) (string, api.Errno) {
	if e := Check(p); e != api.OK {
		return "", e
	}
	c := cellOf(p.Width, how)
	var s strings.Builder
	s.Grow(Len(p) * p.Channels * c.size)
	inTurn(p.Planes, func(v *int) bool {
		s.WriteString(c.text(*v))
		return true
	})
	return s.String(), api.OK
}

// Unpack is the PCM whose samples are the bytes of s.
func Unpack(s string, rate, channels, width int, how api.Layout) (api.PCM, api.Errno) {
	if !mayBe(rate, channels, width) {
		return api.PCM{}, api.ErrPcm
	}
	c := cellOf(width, how)
	step := channels * c.size
	if len(s)%step != 0 {
		return api.PCM{}, api.ErrMalformed
	}
	length := len(s) / step
	if length > api.MaxSamples {
		return api.PCM{}, api.ErrLarge
	}
	planes := blank[int](channels, length)
	right := inTurn(planes, func(v *int) bool {
		*v = c.number(s[:c.size])
		s = s[c.size:]
		return isSample(*v, width)
	})
	if !right {
		return api.PCM{}, api.ErrMalformed
	}
	return api.PCM{Rate: rate, Channels: channels, Width: width, Planes: planes}, api.OK
}

// Digest is the digest of the samples of p, as FLAC tells it.
func Digest(p api.PCM) (string, api.Errno) {
	s, e := Pack(p, api.Layout{})
	if e != api.OK {
		return "", e
	}
	return digest.Of(s), api.OK
}

func cellOf(width int, how api.Layout) cell {
	return cell{width: width, size: (width + 7) / 8, how: how}
}

// text is a sample's bytes; it fits them, so that no error is told.
func (c cell) text(sample int) string {
	n := sample & (1<<(8*c.size) - 1)
	if c.how.Unsigned {
		n = sample + half(c.width)
	}
	var s string
	if c.how.Big {
		s, _ = bytes.Be(n, c.size)
	} else {
		s, _ = bytes.Le(n, c.size)
	}
	return s
}

// number is what the bytes of a cell say. It may be no sample, where the cell has more bits than the width.
func (c cell) number(s string) int {
	n := bytes.FromLe(s)
	if c.how.Big {
		n = bytes.FromBe(s)
	}
	if c.how.Unsigned {
		return n - half(c.width)
	}
	if n >= half(8*c.size) {
		return n - 1<<(8*c.size)
	}
	return n
}
