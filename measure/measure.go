// Package measure tells how many bytes a FLAC frame has, without laying it. It stands beside the layers, for those that lay frames one behind the other: a skeleton may ask for Rice codes of which a few samples fill more than there is memory, and still be looked at to its end.
package measure

import (
	"lacquer/api"
	"lacquer/bytes"
	"lacquer/predict"
)

// none stands for the bits or bytes of what cannot be coded.
const none = -1

// How many bits the parts of a frame have that each frame has.
const (
	byteWidth  = 8
	codesWidth = 32 // ahead of Number
	sumsWidth  = 8 + 16
)

// The codes of a size and of a rate that stand behind Number.
const (
	sizeInOneByte = 6
	sizeInTwo     = 7
	rateThousands = 12
	rateOnes      = 13
	rateTens      = 14
)

// Frame is how many bytes f has, which frame.Check takes for a stream of this width, with these samples, so many as it asks for and none beyond the width; -1, if they do not go with it.
func Frame(f api.Frame, width int, planes [][]int) int {
	bits := headBits(f)
	for c, l := range channels(f.Mode, planes) {
		n := subBits(f.Subs[c], subWidth(f.Mode, c, width), l)
		if n == none {
			return none
		}
		bits += n
	}
	// The bits 0 up to a whole byte stand ahead of the last sum, which has whole bytes itself.
	return (bits + byteWidth - 1) / byteWidth
}

// headBits is how many bits a frame has besides its subframes.
func headBits(f api.Frame) int {
	number, _ := bytes.Coded(f.Number)
	behind := len(number) + sizeBytes(f.SizeCode) + rateBytes(f.RateCode)
	return codesWidth + behind*byteWidth + sumsWidth
}

// sizeBytes is in how many bytes the size stands behind Number.
func sizeBytes(code int) int {
	switch code {
	case sizeInOneByte:
		return 1
	case sizeInTwo:
		return 2
	}
	return 0
}

// rateBytes is that of the rate.
func rateBytes(code int) int {
	switch code {
	case rateThousands:
		return 1
	case rateOnes, rateTens:
		return 2
	}
	return 0
}

// channels is the planes as the mode codes them.
func channels(mode int, planes [][]int) [][]int {
	if mode == api.ModeAlone {
		return planes
	}
	a, b, _ := predict.Stereo(mode, planes[0], planes[1])
	return [][]int{a, b}
}

// subWidth is how many bits the samples of a channel have: the difference of two needs one more.
func subWidth(mode, channel, width int) int {
	isDifference := (mode == api.ModeLeft || mode == api.ModeMid) && channel == 1 || mode == api.ModeRight && channel == 0
	if isDifference {
		return width + 1
	}
	return width
}
