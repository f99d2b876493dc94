package flac

import (
	"lacquer/api"
	"lacquer/frame"
	"lacquer/meta"
	"lacquer/pcm"
	"lacquer/search"
)

// Plain is the skeleton that the program makes of p by itself, at this level. The layers below take all that fits the format, so that behind Fits no error is told.
func Plain(p api.PCM, level int) (api.Flac, api.Errno) {
	if level < 0 || level > api.MaxLevel {
		return api.Flac{}, api.ErrArg
	}
	if e := pcm.Fits(api.FormatFlac, p); e != api.OK {
		return api.Flac{}, e
	}
	info := plainInfo(p, search.Size(level))
	var frames []api.Frame
	for from := 0; from < info.Samples; from += info.MaxBlock {
		planes := cut(p.Planes, from, min(from+info.MaxBlock, info.Samples))
		f, _ := search.Frame(info, len(frames), planes, level)
		s, _ := frame.Build(f, info, planes)
		noteFrame(&info, len(s))
		frames = append(frames, f)
	}
	body, _ := meta.LayInfo(info)
	return api.Flac{Blocks: []api.Block{{Type: typeInfo, Body: body}}, Frames: frames}, api.OK
}

// plainInfo is what STREAMINFO says of p in frames of this size, as long as there are none.
func plainInfo(p api.PCM, size int) api.StreamInfo {
	digest, _ := pcm.Digest(p)
	return api.StreamInfo{
		MinBlock: size,
		MaxBlock: size,
		Rate:     p.Rate,
		Channels: p.Channels,
		Width:    p.Width,
		Samples:  pcm.Len(p),
		Digest:   digest,
	}
}

// noteFrame lets info tell that there is a frame of so many bytes.
func noteFrame(info *api.StreamInfo, size int) {
	isFirst := info.MaxFrame == 0
	if isFirst || size < info.MinFrame {
		info.MinFrame = size
	}
	info.MaxFrame = max(info.MaxFrame, size)
}
