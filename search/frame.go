package search

import (
	"lacquer/api"
	"lacquer/frame"
	"lacquer/predict"
)

// What a stream and its frames may have.
const (
	minStreamWidth = 4
	maxStreamWidth = 24
	maxNumber      = 1<<31 - 1
)

// mayHaveFrame says whether the stream may have a frame with this number and these samples.
func mayHaveFrame(info api.StreamInfo, number int, planes [][]int) bool {
	return mayHaveFrames(info) && number >= 0 && number <= maxNumber &&
		len(planes) == info.Channels && areBlocks(planes, info.Width)
}

// mayHaveFrames says whether the stream may have frames at all. The bounds of its channels are frame.Check's, which must take what Frame tells.
func mayHaveFrames(info api.StreamInfo) bool {
	return info.Channels >= 1 && info.Channels <= api.MaxChannels &&
		info.Width >= minStreamWidth && info.Width <= maxStreamWidth &&
		info.Rate >= 1 && info.Rate <= api.MaxRate
}

// areBlocks says whether the planes are as long as one another and as a frame may be, with samples of this width.
func areBlocks(planes [][]int, width int) bool {
	for _, l := range planes {
		if len(l) != len(planes[0]) || len(l) < 1 || len(l) > api.MaxBlock || !areWithin(l, width) {
			return false
		}
	}
	return true
}

// channels is the shortest coding of all planes.
func channels(planes [][]int, width, level int) coding {
	if len(planes) == 2 && level > 0 {
		return stereo(planes[0], planes[1], width, level)
	}
	var list []coding
	for _, l := range planes {
		list = append(list, channel(l, width, level))
	}
	return joined(api.ModeAlone, list...)
}

// stereo is the shortest coding of two channels. The four modes have four channels among them: that of ModeMid's difference is the other modes' too, with a bit more than a sample.
func stereo(a, b []int, width, level int) coding {
	half, less, _ := predict.Stereo(api.ModeMid, a, b)
	left, right := channel(a, width, level), channel(b, width, level)
	mid, side := channel(half, width, level), channel(less, width+1, level)
	return shortest(
		joined(api.ModeAlone, left, right),
		joined(api.ModeLeft, left, side),
		joined(api.ModeRight, side, right),
		joined(api.ModeMid, mid, side),
	)
}

// withCodes is the frame, which has all else, with the codes of its head: of each of them the first that is right. As long as a code is 0, rate and width are the stream's, so that the codes are looked for one behind the other.
func withCodes(f api.Frame, info api.StreamInfo) api.Frame {
	f = withRight(f, info, putSizeCode, 1, 2, 3, 4, 5, 8, 9, 10, 11, 12, 13, 14, 15, 6, 7)
	f = withRight(f, info, putRateCode, 1, 2, 3, 4, 5, 6, 7, 8, 9, 10, 11, 12, 13, 14, 0)
	return withRight(f, info, putWidthCode, 1, 2, 4, 5, 6, 0)
}

// withRight is the frame with the first of the codes with which frame.Check takes it: what the codes say is that layer's to know. The last one is always right.
func withRight(f api.Frame, info api.StreamInfo, put func(*api.Frame, int), codes ...int) api.Frame {
	for _, code := range codes {
		put(&f, code)
		if frame.Check(f, info) == api.OK {
			break
		}
	}
	return f
}

func putSizeCode(f *api.Frame, code int)  { f.SizeCode = code }
func putRateCode(f *api.Frame, code int)  { f.RateCode = code }
func putWidthCode(f *api.Frame, code int) { f.WidthCode = code }
