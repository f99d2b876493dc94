package flac

import (
	"lacquer/api"
	"lacquer/frame"
)

// Frames is the samples of the frames that s is, one behind the other, and how they are coded.
func Frames(s string, info api.StreamInfo) ([][]int, []api.Frame, api.Errno) {
	r := row{info: info}
	planes := noSamples(info.Channels)
	var frames []api.Frame
	for s != "" {
		blocks, f, n, e := frame.Parse(s, info)
		if e == api.OK {
			e = r.take(f)
		}
		if e != api.OK {
			return nil, nil, e
		}
		for c, l := range blocks {
			planes[c] = append(planes[c], l...)
		}
		frames = append(frames, f)
		s = s[n:]
	}
	return planes, frames, api.OK
}

// noSamples is an empty plane for each channel of a stream, so that one without frames has its planes too; none, if no stream has so many.
func noSamples(channels int) [][]int {
	if channels < 1 || channels > api.MaxChannels {
		return nil
	}
	return make([][]int, channels)
}

// row is what is known of a stream's frames, as they are come to in order, be they read or laid.
type row struct {
	info        api.StreamInfo
	first, last api.Frame
	count       int
	samples     int
}

// take comes to the next frame, which frame.Check takes, and tells what speaks against it.
func (r *row) take(f api.Frame) api.Errno {
	if f.Number != r.numberOf(f) || f.Size > r.info.MaxBlock || !r.mayGoOn(f) {
		return api.ErrMalformed
	}
	if r.count == 0 {
		r.first = f
	}
	r.last = f
	r.count++
	r.samples += f.Size
	if r.samples > api.MaxSamples {
		return api.ErrLarge
	}
	return api.OK
}

// numberOf is the Number that f must have as the next frame.
func (r *row) numberOf(f api.Frame) int {
	if f.Variable {
		return r.samples
	}
	return r.count
}

// mayGoOn says whether f may stand behind the frames ahead of it. Only of the last frame it is not told how short it may be, so that each is looked at when the next one comes.
func (r *row) mayGoOn(f api.Frame) bool {
	if r.count == 0 {
		return true
	}
	if f.Variable != r.first.Variable || r.last.Size < r.info.MinBlock {
		return false
	}
	return f.Variable || r.last.Size == r.first.Size && f.Size <= r.first.Size
}
