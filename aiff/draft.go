package aiff

import (
	"lacquer/api"
	"lacquer/riff"
)

// draft is a file that is being built. It stays open till its chunks are laid, for it begins with its length.
type draft struct {
	form   string
	isLaid bool
	chunks string
}

// lay lays the chunks, if there are bytes of them, and no more than a file may have.
func (d *draft) lay(l []api.Chunk) {
	if !hasRoom(l) {
		return
	}
	s, e := riff.Lay(l, true)
	d.chunks, d.isLaid = s, e == api.OK
}

// close is the whole file; there is none, if the chunks were not laid or are too large.
func (d *draft) close() (string, api.Errno) {
	size := fileHead + len(d.chunks)
	if !d.isLaid || size > api.MaxFile {
		return "", api.ErrRecipe
	}
	return headOf(d.form, size) + d.chunks, api.OK
}

// hasRoom says whether the Bodies alone could stand in a file, so that none is laid that is far too large.
func hasRoom(l []api.Chunk) bool {
	room := api.MaxFile
	for _, c := range l {
		room -= len(c.Body)
		if room < 0 {
			return false
		}
	}
	return true
}
