package riff

import (
	"strings"

	"lacquer/api"
	"lacquer/bytes"
)

const (
	idSize    = 4
	chunkHead = 8         // bytes of a chunk ahead of its Body
	noPad     = -1        // the Pad of an odd Body at the very end that has none
	elsewhere = 1<<32 - 1 // stands in place of a length that is told elsewhere
)

// sizes is how the lengths of Bodies are told.
type sizes struct {
	big       bool
	far       string // the Id of a chunk whose length is told elsewhere; none, if it is empty
	farLength int    // that length, or -1 if an int cannot be it
}

// Chunks is the chunks that s is, from the beginning on.
func Chunks(s string, big bool) ([]api.Chunk, api.Errno) {
	var l []api.Chunk
next:
	if s == "" {
		return l, api.OK
	}
	c, rest, e := sizes{big: big}.begin(s, len(l))
	if e != api.OK {
		return nil, e
	}
	l, s = append(l, own(c)), rest
	goto next
}

// Lay is the bytes of the chunks of l.
func Lay(l []api.Chunk, big bool) (string, api.Errno) {
	if !mayStand(l) {
		return "", api.ErrRecipe
	}
	return sizes{big: big}.lay("", l), api.OK
}

// begin is the chunk with which s begins, so many others being ahead of it, and what is behind it.
func (z sizes) begin(s string, ahead int) (api.Chunk, string, api.Errno) {
	if len(s) < chunkHead || !isId(s[:idSize]) {
		return api.Chunk{}, "", api.ErrMalformed
	}
	id, rest := s[:idSize], s[chunkHead:]
	length := z.length(id, s[idSize:chunkHead])
	if length < 0 || length > len(rest) {
		return api.Chunk{}, "", api.ErrMalformed
	}
	if ahead >= api.MaxChunks {
		return api.Chunk{}, "", api.ErrLarge
	}
	c := api.Chunk{Id: id, Body: rest[:length]}
	rest = rest[length:]
	if isOdd(c) {
		c.Pad, rest = padOf(rest)
	}
	return c, rest, api.OK
}

// length is how many bytes the Body of a chunk has in whose head told stands, or -1.
func (z sizes) length(id, told string) int {
	n := bytes.FromLe(told)
	if z.big {
		n = bytes.FromBe(told)
	}
	if id != z.far {
		return n
	}
	if n != elsewhere {
		return -1
	}
	return z.farLength
}

// told is what stands in the head of c for how many bytes its Body has.
func (z sizes) told(c api.Chunk) string {
	n := len(c.Body)
	if c.Id == z.far {
		n = elsewhere
	}
	var s string
	if z.big {
		s, _ = bytes.Be(n, idSize)
	} else {
		s, _ = bytes.Le(n, idSize)
	}
	return s
}

// lay is the bytes of chunks that may stand, behind those of ahead.
func (z sizes) lay(ahead string, l []api.Chunk) string {
	var s strings.Builder
	s.Grow(len(ahead) + sizeOf(l))
	s.WriteString(ahead)
	for _, c := range l {
		s.WriteString(c.Id)
		s.WriteString(z.told(c))
		s.WriteString(c.Body)
		if hasPad(c) {
			s.WriteByte(byte(c.Pad))
		}
	}
	return s.String()
}

// mayStand says whether there are bytes of these chunks, one behind the other.
func mayStand(l []api.Chunk) bool {
	if len(l) > api.MaxChunks {
		return false
	}
	for i, c := range l {
		isLast := i == len(l)-1
		if !isId(c.Id) || !mayHavePad(c, isLast) {
			return false
		}
	}
	return true
}

// isId says whether s is the Id of a chunk.
func isId(s string) bool {
	if len(s) != idSize {
		return false
	}
	for i := range len(s) {
		if s[i] < 32 || s[i] > 126 {
			return false
		}
	}
	return true
}

// mayHavePad says whether the Pad of c goes with its Body and its place.
func mayHavePad(c api.Chunk, isLast bool) bool {
	if !isOdd(c) {
		return c.Pad == 0
	}
	if c.Pad == noPad {
		return isLast
	}
	return c.Pad >= 0 && c.Pad <= 255
}

// hasPad says whether a byte stands behind the Body of c.
func hasPad(c api.Chunk) bool {
	return isOdd(c) && c.Pad != noPad
}

func isOdd(c api.Chunk) bool {
	return len(c.Body)%2 == 1
}

// padOf is the Pad of an odd Body that s is behind, and what is behind the pad.
func padOf(s string) (int, string) {
	if s == "" {
		return noPad, s
	}
	return int(s[0]), s[1:]
}

// sizeOf is how many bytes chunks that may stand have.
func sizeOf(l []api.Chunk) int {
	size := 0
	for _, c := range l {
		size += chunkHead + len(c.Body)
		if hasPad(c) {
			size++
		}
	}
	return size
}

// own is c in memory of its own, so that one who keeps a chunk does not keep the whole text that it was cut from.
func own(c api.Chunk) api.Chunk {
	return api.Chunk{Id: strings.Clone(c.Id), Body: strings.Clone(c.Body), Pad: c.Pad}
}
