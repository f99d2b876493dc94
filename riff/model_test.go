package riff_test

import (
	"encoding/binary"
	"fmt"
	"slices"
	"strings"
	"testing"

	"lacquer/api"
	"lacquer/riff"
)

// The tests hold the package against the chapter's words spelt out byte by byte, place by place.

// order is how a number's bytes stand.
func order(big bool) binary.ByteOrder {
	if big {
		return binary.BigEndian
	}
	return binary.LittleEndian
}

// isIdModel says whether s is an Id.
func isIdModel(s string) bool {
	for _, b := range []byte(s) {
		if b <= 31 || b >= 127 {
			return false
		}
	}
	return len(s) == 4
}

func chunksModel(s string, big bool) ([]api.Chunk, api.Errno) {
	var l []api.Chunk
	for at := 0; at < len(s); {
		if at+8 > len(s) || !isIdModel(s[at:at+4]) {
			return nil, api.ErrMalformed
		}
		end := at + 8 + int(order(big).Uint32([]byte(s[at+4:at+8])))
		if end > len(s) {
			return nil, api.ErrMalformed
		}
		if len(l) == 1024 {
			return nil, api.ErrLarge
		}
		c := api.Chunk{Id: s[at : at+4], Body: s[at+8 : end]}
		at = end
		if len(c.Body)%2 != 0 {
			c.Pad = -1
			if at < len(s) {
				c.Pad = int(s[at])
				at++
			}
		}
		l = append(l, c)
	}
	return l, api.OK
}

// layModel: the bytes of l, if Chunks would tell l of them.
func layModel(l []api.Chunk, big bool) (string, api.Errno) {
	s := laid(l, big)
	got, e := chunksModel(s, big)
	if e != api.OK || !slices.Equal(got, l) {
		return "", api.ErrRecipe
	}
	return s, api.OK
}

// laid is chunks one behind the other, be they right or not.
func laid(l []api.Chunk, big bool) string {
	var b []byte
	for _, c := range l {
		n := make([]byte, 4)
		order(big).PutUint32(n, uint32(len(c.Body)))
		b = append(append(append(b, c.Id...), n...), c.Body...)
		if len(c.Body)%2 != 0 && c.Pad != -1 {
			b = append(b, byte(c.Pad))
		}
	}
	return string(b)
}

// formatModel is what fmt says: channels, rate, width.
func formatModel(body string) (channels, rate, width int, e api.Errno) {
	at := func(from, to int) int { return int(from64(body[from:to])) }
	if len(body) < 16 {
		return 0, 0, 0, api.ErrMalformed
	}
	tag := at(0, 2)
	channels, rate, width = at(2, 4), at(4, 8), at(14, 16)
	switch {
	case tag != 1 && tag != 65534:
		e = api.ErrUnsupported
	case tag == 1 && len(body) != 16 && len(body) != 18, tag == 65534 && len(body) != 40:
		e = api.ErrMalformed
	case channels == 0 || rate == 0 || width == 0:
		e = api.ErrMalformed
	case channels > 8 || rate > 655350 || !slices.Contains([]int{8, 16, 24, 32}, width):
		e = api.ErrUnsupported
	case at(12, 14) != channels*width/8 || at(8, 12) != rate*at(12, 14):
		e = api.ErrMalformed
	case len(body) == 18 && at(16, 18) != 0, len(body) == 40 && at(16, 18) != 22:
		e = api.ErrMalformed
	case len(body) == 40 && (at(18, 20) != width || !slices.Equal([]byte(body[24:]), guid())):
		e = api.ErrUnsupported
	}
	return channels, rate, width, e
}

// guid is the 16 bytes as the chapter lists them.
func guid() []byte {
	return []byte{1, 0, 0, 0, 0, 0, 16, 0, 128, 0, 0, 170, 0, 56, 155, 113}
}

// from64 is the number that s is, the lowest byte first.
func from64(s string) uint64 {
	var b [8]byte
	copy(b[:], s)
	return binary.LittleEndian.Uint64(b[:])
}

// model is a WAV file that is being read.
type model struct {
	long                  bool
	behind                uint64
	sizes                 []uint64 // the numbers of ds64
	chunks                []api.Chunk
	format, data          string
	hasFmt, hasData       bool
	channels, rate, width int
}

// parseModel is Parse's answer, with most bytes as the limit.
func parseModel(s string, most int) (api.PCM, api.Wave, api.Errno) {
	if len(s) > most {
		return api.PCM{}, api.Wave{}, api.ErrLarge
	}
	m := model{behind: uint64(len(s)) - 8}
	number := m.behind
	if strings.HasPrefix(s, "RF64") {
		m.long, number = true, 1<<32-1
	} else if !strings.HasPrefix(s, "RIFF") {
		return api.PCM{}, api.Wave{}, api.ErrMalformed
	}
	if len(s) < 12 || from64(s[4:8]) != number || s[8:12] != "WAVE" {
		return api.PCM{}, api.Wave{}, api.ErrMalformed
	}
	for at := 12; at < len(s); {
		next, e := m.chunk(s, at)
		if e != api.OK {
			return api.PCM{}, api.Wave{}, e
		}
		at = next
	}
	p, e := m.samples()
	if e != api.OK {
		return api.PCM{}, api.Wave{}, e
	}
	return p, api.Wave{Form: s[:4], Chunks: m.chunks}, api.OK
}

// chunk reads the chunk at a place, and tells where the next one is.
func (m *model) chunk(s string, at int) (int, api.Errno) {
	if at+8 > len(s) || !isIdModel(s[at:at+4]) {
		return 0, api.ErrMalformed
	}
	id, n := s[at:at+4], from64(s[at+4:at+8])
	if m.long && id == "data" {
		if n != 1<<32-1 || m.sizes == nil {
			return 0, api.ErrMalformed
		}
		n = m.sizes[1]
	}
	if n > uint64(len(s)-at-8) {
		return 0, api.ErrMalformed
	}
	if len(m.chunks) == 1024 {
		return 0, api.ErrLarge
	}
	end := at + 8 + int(n)
	c := api.Chunk{Id: id, Body: s[at+8 : end]}
	if n%2 != 0 && end < len(s) {
		c.Pad = int(s[end])
		end++
	} else if n%2 != 0 {
		c.Pad = -1
	}
	e := m.look(c)
	if id == "data" {
		c.Body = ""
	}
	m.chunks = append(m.chunks, c)
	return end, e
}

// look says whether a chunk may stand behind the others.
func (m *model) look(c api.Chunk) (e api.Errno) {
	switch {
	case m.long && len(m.chunks) == 0:
		if c.Id != "ds64" || len(c.Body) != 28 || from64(c.Body[:8]) != m.behind || c.Body[24:] != "\x00\x00\x00\x00" {
			return api.ErrMalformed
		}
		m.sizes = []uint64{m.behind, from64(c.Body[8:16]), from64(c.Body[16:24])}
	case m.long && c.Id == "ds64", c.Id == "fmt " && m.hasFmt, c.Id == "data" && (m.hasData || !m.hasFmt):
		return api.ErrMalformed
	case c.Id == "fmt ":
		m.hasFmt = true
		m.channels, m.rate, m.width, e = formatModel(c.Body)
	case c.Id == "data":
		m.hasData, m.data = true, c.Body
	}
	return e
}

// samples is the PCM, behind the last chunk.
func (m *model) samples() (api.PCM, api.Errno) {
	if !m.hasFmt || !m.hasData {
		return api.PCM{}, api.ErrMalformed
	}
	size := m.width / 8
	count := len(m.data) / size / m.channels
	if count*size*m.channels != len(m.data) || m.long && m.sizes[2] != uint64(count) {
		return api.PCM{}, api.ErrMalformed
	}
	if count > 1<<20 {
		return api.PCM{}, api.ErrLarge
	}
	p := api.PCM{Rate: m.rate, Channels: m.channels, Width: m.width, Planes: make([][]int, m.channels)}
	for i := 0; i < len(m.data); i += size {
		v := int(from64(m.data[i : i+size]))
		if m.width == 8 {
			v -= 128
		} else if v >= 1<<(m.width-1) {
			v -= 1 << m.width
		}
		c := i / size % m.channels
		p.Planes[c] = append(p.Planes[c], v)
	}
	return p, api.OK
}

// packed is samples as data has them.
func packed(p api.PCM) string {
	var b []byte
	for i := range p.Planes[0] {
		for _, plane := range p.Planes {
			v := plane[i]
			if p.Width == 8 {
				v += 128
			}
			for range p.Width / 8 {
				b = append(b, byte(v))
				v >>= 8
			}
		}
	}
	return string(b)
}

// num is the lowest bytes of n, the lowest first.
func num(n, width int) string {
	b := binary.LittleEndian.AppendUint64(nil, uint64(n))
	return string(b[:width])
}

// buildModel is Build's answer of a PCM that fits: the one text that could have this skeleton, if that tells p and w when it is read.
func buildModel(p api.PCM, w api.Wave) (string, api.Errno) {
	l := slices.Clone(w.Chunks)
	for i, c := range l {
		if c.Id == "data" {
			l[i].Body += packed(p)
		}
	}
	s := wrapped(w.Form, l)
	q, x, e := parseModel(s, 1<<40)
	if e != api.OK || !likePcm(p, q) || !likeWave(w, x) {
		return "", api.ErrRecipe
	}
	if len(s) > 1<<26 {
		return "", api.ErrLarge
	}
	return s, api.OK
}

// wrapped is a text of a form with these chunks, be they right or not; in RF64 each data tells 2^32 - 1.
func wrapped(form string, l []api.Chunk) string {
	var b strings.Builder
	for _, c := range l {
		one := laid([]api.Chunk{c}, false)
		if form == "RF64" && c.Id == "data" {
			one = "data\xff\xff\xff\xff" + one[8:]
		}
		b.WriteString(one)
	}
	number := num(b.Len()+4, 4)
	if form == "RF64" {
		number = "\xff\xff\xff\xff"
	}
	return form + number + "WAVE" + b.String()
}

// likePcm and likeWave say whether two are the same, an empty list the same as none.
func likePcm(a, b api.PCM) bool {
	return a.Rate == b.Rate && a.Channels == b.Channels && a.Width == b.Width && slices.EqualFunc(a.Planes, b.Planes, slices.Equal)
}

func likeWave(a, b api.Wave) bool {
	return a.Form == b.Form && slices.Equal(a.Chunks, b.Chunks)
}

// short is what is told of a thing, cut off where it is long.
func short(v any) string {
	s := fmt.Sprintf("%+q", []any{v})
	return s[:min(len(s), 400)]
}

// chunks fails, unless Chunks of s tells what the model tells, with both ends; it tells the error of the lowest first.
func chunks(t *testing.T, s string) api.Errno {
	t.Helper()
	for _, big := range []bool{true, false} {
		want, wanted := chunksModel(s, big)
		isChunks(t, s, big, want, wanted)
	}
	_, e := riff.Chunks(s, false)
	return e
}

// isChunks fails, unless Chunks tells these chunks, or this error and nothing beside it.
func isChunks(t *testing.T, s string, big bool, want []api.Chunk, wanted api.Errno) {
	t.Helper()
	got, e := riff.Chunks(s, big)
	if e != wanted || !slices.Equal(got, want) || e != api.OK && len(got) != 0 {
		t.Fatalf("Chunks(%s, %v): %s, error %d, not %s, %d", short(s), big, short(got), e, short(want), wanted)
	}
}

// isLay fails, unless Lay tells this text, or this error and nothing beside it.
func isLay(t *testing.T, l []api.Chunk, big bool, want string, wanted api.Errno) {
	t.Helper()
	got, e := riff.Lay(l, big)
	if e != wanted || got != want {
		t.Fatalf("Lay(%s, %v): %s, error %d, not %s, %d", short(l), big, short(got), e, short(want), wanted)
	}
}

// lays fails, unless Lay of l tells what the model tells, with both ends; it tells the error.
func lays(t *testing.T, l []api.Chunk) api.Errno {
	t.Helper()
	for _, big := range []bool{true, false} {
		want, wanted := layModel(l, big)
		isLay(t, l, big, want, wanted)
	}
	_, e := riff.Lay(l, false)
	return e
}

// parses fails, unless Parse of s tells what the model tells; it tells the error.
func parses(t *testing.T, s string) api.Errno {
	t.Helper()
	p, w, e := parseModel(s, 1<<26)
	isParse(t, s, p, w, e)
	return e
}

// isParse fails, unless Parse tells this PCM and skeleton, or this error and nothing beside it.
func isParse(t *testing.T, s string, p api.PCM, w api.Wave, wanted api.Errno) {
	t.Helper()
	q, x, e := riff.Parse(s)
	if e != wanted {
		t.Fatalf("Parse(%s): error %d, not %d", short(s), e, wanted)
	}
	if !likePcm(p, q) || !likeWave(w, x) {
		t.Fatalf("Parse(%s): %s %s, not %s %s", short(s), short(q), short(x), short(p), short(w))
	}
}

// refuses fails, unless Parse of s answers this error, and the model says so, too.
func refuses(t *testing.T, what, s string, want api.Errno) {
	t.Helper()
	if e := parses(t, s); e != want {
		t.Fatalf("%s: Parse(%s): error %d, not %d", what, short(s), e, want)
	}
}

// builds fails, unless Build of a PCM that fits tells what the model tells; it tells the error.
func builds(t *testing.T, p api.PCM, w api.Wave) api.Errno {
	t.Helper()
	s, e := buildModel(p, w)
	isBuild(t, p, w, s, e)
	return e
}

// isBuild fails, unless Build tells this text, or this error and nothing beside it.
func isBuild(t *testing.T, p api.PCM, w api.Wave, want string, wanted api.Errno) {
	t.Helper()
	got, e := riff.Build(p, w)
	if e != wanted || got != want {
		t.Fatalf("Build(%s, %s): %s, error %d, not %s, %d", short(p), short(w), short(got), e, short(want), wanted)
	}
}

// format is a Body of fmt of so many bytes, the 4 bytes that may be any being 9 8 7 6.
func format(size, channels, rate, width int) string {
	tag := 1
	if size == 40 {
		tag = 65534
	}
	block := channels * width / 8
	s := num(tag, 2) + num(channels, 2) + num(rate, 4) + num(rate*block, 4) + num(block, 2) + num(width, 2)
	switch size {
	case 18:
		s += "\x00\x00"
	case 40:
		s += num(22, 2) + num(width, 2) + "\x09\x08\x07\x06" + string(guid())
	}
	return s
}

// fmtChunk is a chunk fmt of p.
func fmtChunk(size int, p api.PCM) api.Chunk {
	return api.Chunk{Id: "fmt ", Body: format(size, p.Channels, p.Rate, p.Width)}
}

// wave is a skeleton of p: in RIFF of these chunks; in RF64 of ds64 and them.
func wave(form string, p api.PCM, l ...api.Chunk) api.Wave {
	if form == "RF64" {
		l = slices.Insert(slices.Clone(l), 0, sizesChunk(p, l))
	}
	return api.Wave{Form: form, Chunks: l}
}

// sizesChunk is the ds64 that stands ahead of l.
func sizesChunk(p api.PCM, l []api.Chunk) api.Chunk {
	samples := packed(p)
	behind := 4 + 36
	for _, c := range l {
		if c.Id == "data" {
			c.Body = samples
		}
		behind += len(laid([]api.Chunk{c}, false))
	}
	return api.Chunk{Id: "ds64", Body: num(behind, 8) + num(len(samples), 8) + num(len(p.Planes[0]), 8) + num(0, 4)}
}

// text is the file of p and w, which must be one.
func text(t *testing.T, p api.PCM, w api.Wave) string {
	t.Helper()
	s, e := buildModel(p, w)
	if e != api.OK {
		t.Fatalf("no file: %s %s: %d", short(p), short(w), e)
	}
	return s
}

// swapped is s with other bytes from a place on.
func swapped(s string, at int, bytes string) string {
	return s[:at] + bytes + s[at+len(bytes):]
}

// numbered is s, a file whose length was changed, with the number that its form asks for; RF64's ds64 is mended, too.
func numbered(s string) string {
	if strings.HasPrefix(s, "RF64") && len(s) >= 28 {
		return swapped(s, 20, num(len(s)-8, 8))
	}
	if strings.HasPrefix(s, "RIFF") && len(s) >= 8 {
		return swapped(s, 4, num(len(s)-8, 4))
	}
	return s
}

// one is a PCM of one channel.
func one(width int, plane ...int) api.PCM {
	return api.PCM{Rate: 8000, Channels: 1, Width: width, Planes: [][]int{plane}}
}

// quiet is a PCM of so many channels and samples, each 0.
func quiet(channels, width, length int) api.PCM {
	p := api.PCM{Rate: 44100, Channels: channels, Width: width}
	for range channels {
		p.Planes = append(p.Planes, make([]int, length))
	}
	return p
}

func forms() []string { return []string{"RIFF", "RF64"} }

func widths() []int { return []int{8, 16, 24, 32} }

func sizes() []int { return []int{16, 18, 40} }

// numbers is a fixed row of numbers that look like chance (SplitMix64).
type numbers uint64

func (r *numbers) next() uint64 {
	*r += 0x9e3779b97f4a7c15
	x := uint64(*r)
	x = (x ^ x>>30) * 0xbf58476d1ce4e5b9
	x = (x ^ x>>27) * 0x94d049bb133111eb
	return x ^ x>>31
}

func (r *numbers) below(n int) int { return int(r.next() % uint64(n)) }

// text is count bytes.
func (r *numbers) text(count int) string {
	s := make([]byte, count)
	for i := range s {
		s[i] = byte(r.next())
	}
	return string(s)
}

// pcm is one that fits.
func (r *numbers) pcm(channels, width, length int) api.PCM {
	p := quiet(channels, width, length)
	p.Rate = 1 + r.below(api.MaxRate)
	for _, plane := range p.Planes {
		for i := range plane {
			plane[i] = int(int64(r.next()) >> (64 - width) >> r.below(width))
		}
	}
	return p
}

// any is a PCM that fits, of up to length samples.
func (r *numbers) any(length int) api.PCM {
	return r.pcm(1+r.below(8), 8*(1+r.below(4)), r.below(length+1))
}

// chunk is a foreign chunk that may stand anywhere.
func (r *numbers) chunk() api.Chunk {
	id := make([]byte, 4)
	for i := range id {
		id[i] = byte(32 + r.below(95))
	}
	names := []string{"LIST", "junk", "id3 ", "FMT ", "Data", "fact"}
	c := api.Chunk{Id: string(id), Body: r.text(r.below(9))}
	if n := r.below(2 * len(names)); n < len(names) {
		c.Id = names[n]
	}
	if len(c.Body)%2 == 1 {
		c.Pad = r.below(256)
	}
	return c
}

// chunks are up to most foreign ones.
func (r *numbers) chunks(most int) []api.Chunk {
	var l []api.Chunk
	for range r.below(most + 1) {
		l = append(l, r.chunk())
	}
	return l
}

// wave is a skeleton of p.
func (r *numbers) wave(p api.PCM) api.Wave {
	l := r.chunks(2)
	l = append(l, fmtChunk(sizes()[r.below(3)], p))
	l = append(l, r.chunks(2)...)
	data := api.Chunk{Id: "data"}
	if len(packed(p))%2 == 1 {
		data.Pad = r.below(256)
	}
	l = append(append(l, data), r.chunks(2)...)
	last := &l[len(l)-1]
	isOdd := len(last.Body)%2 == 1 || last.Id == "data" && len(packed(p))%2 == 1
	if isOdd && r.below(2) == 0 {
		last.Pad = -1
	}
	return wave(forms()[r.below(2)], p, l...)
}
