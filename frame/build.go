package frame

import (
	"lacquer/api"
	"lacquer/bits"
	"lacquer/predict"
	"lacquer/subframe"
	"lacquer/sums"
)

// Build is the frame of these samples, coded as f says.
func Build(f api.Frame, info api.StreamInfo, planes [][]int) (string, api.Errno) {
	if e := Check(f, info); e != api.OK {
		return "", e
	}
	if len(planes) != info.Channels || !areAsLong(planes, f.Size) || !areWithin(planes, info.Width) {
		return "", api.ErrRecipe
	}
	w := bits.New()
	writeHead(w, f, info)
	if e := writeSubs(w, f, info, coded(f.Mode, planes)); e != api.OK {
		return "", e
	}
	w.Align()
	w.Put(uint64(sums.Crc16(w.Bytes())), 16)
	return w.Bytes(), api.OK
}

// areAsLong says whether each plane has so many samples.
func areAsLong(planes [][]int, size int) bool {
	for _, l := range planes {
		if len(l) != size {
			return false
		}
	}
	return true
}

// coded is the channels as the mode codes them.
func coded(mode int, planes [][]int) [][]int {
	if mode == api.ModeAlone {
		return planes
	}
	a, b, _ := predict.Stereo(mode, planes[0], planes[1])
	return [][]int{a, b}
}

// writeSubs writes the subframes, channel by channel.
func writeSubs(w *bits.Writer, f api.Frame, info api.StreamInfo, channels [][]int) api.Errno {
	for c, l := range channels {
		if e := subframe.Encode(w, f.Subs[c], subWidth(f.Mode, c, info.Width), l); e != api.OK {
			return e
		}
	}
	return api.OK
}
