package flac

import (
	"strings"

	"lacquer/api"
	"lacquer/frame"
	"lacquer/measure"
	"lacquer/meta"
	"lacquer/pcm"
)

// The types of blocks that have rules about where they stand, and one that has none.
const (
	typeInfo    = 0
	typePadding = 1
	typeComment = 4
)

// draft is a file that is being built. Once it is larger than a file may be, what comes is looked at and counted, but not laid.
type draft struct {
	pcm  api.PCM
	flac api.Flac
	info api.StreamInfo
	text strings.Builder
	size int
}

// hasRoom says whether so many bytes more may be laid.
func (d *draft) hasRoom(n int) bool {
	return d.size+n <= api.MaxFile
}

// add lays s, if it has room.
func (d *draft) add(s string) {
	if d.hasRoom(len(s)) {
		d.text.WriteString(s)
	}
	d.size += len(s)
}

// layMark lays what the file begins with.
func (d *draft) layMark() bool {
	d.add(mark)
	return true
}

// layBlocks lays the metadata; false, if it may not be, or is not of the samples.
func (d *draft) layBlocks() bool {
	blocks := d.flac.Blocks
	if !mayStand(blocks) {
		return false
	}
	if atLeast := bodiesOf(blocks); d.hasRoom(atLeast) {
		s, _ := meta.Build(blocks)
		d.add(s)
	} else {
		d.size += atLeast
	}
	d.info, _ = meta.Info(blocks[0].Body)
	return isOf(d.info, d.pcm)
}

// bodiesOf is how many bytes the Bodies of the blocks have.
func bodiesOf(l []api.Block) int {
	size := 0
	for _, b := range l {
		size += len(b.Body)
	}
	return size
}

// mayStand says whether metadata may have these blocks, without laying them: blocks that share a long Body have far more bytes than they take memory. So meta.Check is asked for each Body, and meta.Build for their types alone.
func mayStand(l []api.Block) bool {
	short := make([]api.Block, len(l))
	for i, b := range l {
		if meta.Check(b) != api.OK {
			return false
		}
		short[i] = shortened(b)
	}
	_, e := meta.Build(short)
	return e == api.OK
}

// shortened is a short block that may stand where b, which meta.Check takes, may.
func shortened(b api.Block) api.Block {
	switch b.Type {
	case typeInfo:
		return b
	case typeComment:
		return api.Block{Type: typeComment}
	}
	return api.Block{Type: typePadding}
}

// layFrames lays the frames; false, if one may not be, or they do not have just the samples.
func (d *draft) layFrames() bool {
	r := row{info: d.info}
	total := pcm.Len(d.pcm)
	for _, f := range d.flac.Frames {
		from := r.samples
		if frame.Check(f, d.info) != api.OK || f.Size > total-from || r.take(f) != api.OK {
			return false
		}
		if !d.layFrame(f, cut(d.pcm.Planes, from, r.samples)) {
			return false
		}
	}
	return r.samples == total
}

// cut is what the planes have from the place from on up to to.
func cut(planes [][]int, from, to int) [][]int {
	blocks := make([][]int, len(planes))
	for c, l := range planes {
		blocks[c] = l[from:to:to]
	}
	return blocks
}

// layFrame lays a frame that frame.Check takes; false, if it cannot have these samples.
func (d *draft) layFrame(f api.Frame, planes [][]int) bool {
	size := measure.Frame(f, d.info.Width, planes)
	if size < 0 {
		return false
	}
	if !d.hasRoom(size) {
		d.size += size
		return true
	}
	s, e := frame.Build(f, d.info, planes)
	d.add(s)
	return e == api.OK
}
