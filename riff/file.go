package riff

import (
	"lacquer/api"
	"lacquer/bytes"
	"lacquer/pcm"
)

const (
	shortForm = "RIFF"
	longForm  = "RF64"
	kind      = "WAVE"
	fileHead  = 12 // bytes of a file ahead of its chunks
	numberEnd = 8  // where the number in them ends
)

const (
	idFmt   = "fmt "
	idData  = "data"
	idSizes = "ds64"
)

// Where the numbers of ds64 end.
const (
	behindEnd = 8
	lengthEnd = 16
	countEnd  = 24
	tableEnd  = 28
)

// file is what is known of a WAV file, as its chunks are come to in order, be it read or built.
type file struct {
	sizes
	form    string
	behind  int // how many bytes are behind the number that it begins with
	seen    int // how many chunks were come to
	hasFmt  bool
	hasData bool
	sound   sound
	samples string // data's Body
	count   int    // how many samples a channel has, as ds64 says, or -1 if an int cannot be it
}

// head is what the file begins with; false, if no file begins so.
func (f *file) head() (string, bool) {
	number := elsewhere
	switch f.form {
	case shortForm:
		number = f.behind
	case longForm:
	default:
		return "", false
	}
	s, e := bytes.Le(number, idSize)
	return f.form + s + kind, e == api.OK
}

// read is the chunks that s is, as the skeleton has them, each taken when it is come to.
func (f *file) read(s string) ([]api.Chunk, api.Errno) {
	var l []api.Chunk
next:
	if s == "" {
		return l, f.end()
	}
	c, rest, e := f.begin(s, len(l))
	if e == api.OK {
		e = f.take(c)
	}
	if e != api.OK {
		return nil, e
	}
	l, s = append(l, own(bare(c))), rest
	goto next
}

// bare is c as the skeleton has it.
func bare(c api.Chunk) api.Chunk {
	if c.Id == idData {
		c.Body = ""
	}
	return c
}

// take comes to the next chunk, and tells what speaks against it.
func (f *file) take(c api.Chunk) api.Errno {
	f.seen++
	isFirst := f.seen == 1
	if f.isLong() && isFirst != (c.Id == idSizes) {
		return api.ErrMalformed
	}
	switch {
	case f.isLong() && isFirst:
		return f.takeSizes(c.Body)
	case c.Id == idFmt:
		return f.takeFmt(c.Body)
	case c.Id == idData:
		return f.takeData(c.Body)
	}
	return api.OK
}

func (f *file) isLong() bool {
	return f.form == longForm
}

// takeSizes takes ds64, which tells the lengths that need not stand at their own places.
func (f *file) takeSizes(body string) api.Errno {
	if len(body) != tableEnd || bytes.FromLe(body[:behindEnd]) != f.behind || bytes.FromLe(body[countEnd:]) != 0 {
		return api.ErrMalformed
	}
	f.far = idData
	f.farLength = bytes.FromLe(body[behindEnd:lengthEnd])
	f.count = bytes.FromLe(body[lengthEnd:countEnd])
	return api.OK
}

func (f *file) takeFmt(body string) api.Errno {
	if f.hasFmt {
		return api.ErrMalformed
	}
	a, e := soundOf(body)
	f.hasFmt, f.sound = true, a
	return e
}

// takeData takes data; what is built may have another length than its ds64 says.
func (f *file) takeData(body string) api.Errno {
	if !f.hasFmt || f.hasData || f.isLong() && len(body) != f.farLength {
		return api.ErrMalformed
	}
	f.hasData, f.samples = true, body
	return api.OK
}

// end is what speaks against the file behind its last chunk. Data stands behind fmt alone, so that where it is fmt is.
func (f *file) end() api.Errno {
	if !f.hasData {
		return api.ErrMalformed
	}
	if f.isLong() && f.count != len(f.samples)/f.sound.block() {
		return api.ErrMalformed
	}
	return api.OK
}

// pcm is the samples of a file that was come to the end of; layer 5 tells whether they are whole, and not too many.
func (f *file) pcm() (api.PCM, api.Errno) {
	a := f.sound
	return pcm.Unpack(f.samples, a.rate, a.channels, a.width, a.layout())
}

// has says whether the file has these chunks, and fmt says a.
func (f *file) has(l []api.Chunk, a sound) bool {
	for _, c := range l {
		if f.take(c) != api.OK {
			return false
		}
	}
	return f.end() == api.OK && f.sound == a
}
