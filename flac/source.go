package flac

import (
	"strings"

	"lacquer/api"
	"lacquer/meta"
)

// mark is what a file begins with.
const mark = "fLaC"

// source is a file that is being read: what is left of it, and what was told of it so far.
type source struct {
	rest   string
	info   api.StreamInfo
	planes [][]int
	flac   api.Flac
}

// readMark reads what tells a file from those of other formats.
func (x *source) readMark() api.Errno {
	rest, ok := strings.CutPrefix(x.rest, mark)
	if !ok {
		return api.ErrUnsupported
	}
	x.rest = rest
	return api.OK
}

// readBlocks reads the metadata; what its first block says holds for all that stands behind it.
func (x *source) readBlocks() api.Errno {
	blocks, n, e := meta.Parse(x.rest)
	if e != api.OK {
		return e
	}
	x.flac.Blocks = blocks
	x.rest = x.rest[n:]
	x.info, e = meta.Info(blocks[0].Body)
	return e
}

// readFrames reads all that is left.
func (x *source) readFrames() (e api.Errno) {
	x.planes, x.flac.Frames, e = Frames(x.rest, x.info)
	return e
}

// pcm is the samples of a file of which all parts were read.
func (x *source) pcm() api.PCM {
	return api.PCM{Rate: x.info.Rate, Channels: x.info.Channels, Width: x.info.Width, Planes: x.planes}
}
