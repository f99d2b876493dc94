package frame

import (
	"lacquer/api"
	"lacquer/bits"
	"lacquer/predict"
	"lacquer/subframe"
	"lacquer/sums"
)

// Parse is the samples of the frame with which s begins, how it is coded, and how many bytes it has.
func Parse(s string, info api.StreamInfo) ([][]int, api.Frame, int, api.Errno) {
	x := bits.Of(s)
	h, ok := readHead(x, s)
	if !ok {
		return nil, api.Frame{}, 0, api.ErrMalformed
	}
	f, e := h.frame(info)
	if e != api.OK {
		return nil, api.Frame{}, 0, e
	}
	channels, e := readSubs(x, &f, info)
	if e != api.OK {
		return nil, api.Frame{}, 0, e
	}
	planes := uncoded(f.Mode, channels)
	if !areWithin(planes, info.Width) || !readEnd(x, s) {
		return nil, api.Frame{}, 0, api.ErrMalformed
	}
	return planes, f, x.At() / 8, api.OK
}

// readSubs reads the subframes, channel by channel, into f how they are coded; the first that is wrong ends it.
func readSubs(x *bits.Reader, f *api.Frame, info api.StreamInfo) ([][]int, api.Errno) {
	var channels [][]int
	errno := api.OK
subframes:
	for c := range info.Channels {
		l, s, e := subframe.Decode(x, f.Size, subWidth(f.Mode, c, info.Width))
		switch e {
		case api.OK:
			channels, f.Subs = append(channels, l), append(f.Subs, s)
		default:
			errno = e
			break subframes
		}
	}
	return channels, errno
}

// uncoded is the planes that the mode codes as these channels.
func uncoded(mode int, channels [][]int) [][]int {
	if mode == api.ModeAlone {
		return channels
	}
	a, b, _ := predict.Unstereo(mode, channels[0], channels[1])
	return [][]int{a, b}
}

// readEnd reads what stands behind the subframes, and says whether it is right.
func readEnd(x *bits.Reader, s string) bool {
	zero, _ := x.Align()
	return zero && readSum(x, s, 16, sums.Crc16)
}
