package meta

import (
	"strings"

	"lacquer/api"
	"lacquer/bytes"
)

const (
	lastFlag    = 128 // is added to the type of the last block
	lengthWidth = 3
	blockHead   = 1 + lengthWidth // bytes of a block ahead of its Body
)

// row is what is known of blocks, as they are come to in order, be they read or built.
type row struct {
	count      int
	hasComment bool
}

// Parse is the blocks with which s begins, up to the last one, and how many bytes they have.
func Parse(s string) ([]api.Block, int, api.Errno) {
	var l []api.Block
	var r row
	w := walk{rest: s}
	for isLast := false; !isLast; {
		var b api.Block
		b, isLast = w.block()
		if w.failed {
			return nil, 0, api.ErrMalformed
		}
		if e := r.take(b); e != api.OK {
			return nil, 0, e
		}
		// One who keeps a block is not to keep the whole text that it was cut from.
		b.Body = strings.Clone(b.Body)
		l = append(l, b)
	}
	return l, len(s) - len(w.rest), api.OK
}

// Build is the bytes of the blocks of l.
func Build(l []api.Block) (string, api.Errno) {
	if !mayStand(l) {
		return "", api.ErrRecipe
	}
	var s strings.Builder
	s.Grow(sizeOf(l))
	for k, b := range l {
		isLast := k == len(l)-1
		s.WriteString(head(b, isLast))
		s.WriteString(b.Body)
	}
	return s.String(), api.OK
}

// block is the next block, and whether it says that it is the last one.
func (w *walk) block() (api.Block, bool) {
	first := w.number(1)
	body := w.take(w.number(lengthWidth))
	return api.Block{Type: first % lastFlag, Body: body}, first >= lastFlag
}

// take comes to the next block, and tells what speaks against it.
func (r *row) take(b api.Block) api.Errno {
	if !r.mayHave(b.Type) {
		return api.ErrMalformed
	}
	if r.count == api.MaxChunks {
		return api.ErrLarge
	}
	r.count++
	r.hasComment = r.hasComment || b.Type == typeComment
	return Check(b)
}

// mayHave says whether a block of this type may be the next one.
func (r *row) mayHave(blockType int) bool {
	isFirst := r.count == 0
	if isFirst != (blockType == typeStreamInfo) {
		return false
	}
	return blockType <= maxType && !(r.hasComment && blockType == typeComment)
}

// mayStand says whether there are bytes of these blocks, one behind the other.
func mayStand(l []api.Block) bool {
	var r row
	for _, b := range l {
		if r.take(b) != api.OK {
			return false
		}
	}
	return len(l) > 0
}

// head is what stands ahead of the Body of a block that may stand.
func head(b api.Block, isLast bool) string {
	first := b.Type
	if isLast {
		first += lastFlag
	}
	a, _ := bytes.Be(first, 1)
	length, _ := bytes.Be(len(b.Body), lengthWidth)
	return a + length
}

// sizeOf is how many bytes blocks that may stand have.
func sizeOf(l []api.Block) int {
	size := 0
	for _, b := range l {
		size += blockHead + len(b.Body)
	}
	return size
}
