package aiff_test

import (
	"encoding/binary"
	"fmt"
	"slices"
	"strings"
	"testing"

	"lacquer/aiff"
	"lacquer/api"
)

// The tests hold the package against the chapter's words spelt out byte by byte, place by place.

// number is what the bytes of s are, the highest first.
func number(s string) int {
	n := 0
	for _, b := range []byte(s) {
		n = n*256 + int(b)
	}
	return n
}

// num is the lowest bytes of n, the highest first.
func num(n, width int) string {
	b := binary.BigEndian.AppendUint64(nil, uint64(n))
	return string(b[8-width:])
}

// rateBytes is n, 1 at least, as chapter 2 lays a rate.
func rateBytes(n int) string {
	e := 0
	for n>>(e+1) > 0 {
		e++
	}
	return num(16383+e, 2) + string(binary.BigEndian.AppendUint64(nil, uint64(n)<<(63-e)))
}

// rateModel is the rate that ten bytes are, or 0.
func rateModel(s string) int {
	e := number(s[:2]) - 16383
	if e < 0 || e > 19 {
		return 0
	}
	n := int(binary.BigEndian.Uint64([]byte(s[2:])) >> (63 - e))
	if n == 0 || n > 655350 || rateBytes(n) != s {
		return 0
	}
	return n
}

func chunksModel(s string) ([]api.Chunk, api.Errno) {
	var l []api.Chunk
	for at := 0; at < len(s); {
		if at+8 > len(s) || strings.ContainsFunc(s[at:at+4], func(r rune) bool { return r < 32 || r > 126 }) {
			return nil, api.ErrMalformed
		}
		end := at + 8 + number(s[at+4:at+8])
		if end > len(s) {
			return nil, api.ErrMalformed
		}
		if len(l) == 1024 {
			return nil, api.ErrLarge
		}
		c := api.Chunk{Id: s[at : at+4], Body: s[at+8 : end]}
		at = end
		if len(c.Body)%2 != 0 {
			c.Pad = -1
			if at < len(s) {
				c.Pad = int(s[at])
				at++
			}
		}
		l = append(l, c)
	}
	return l, api.OK
}

// commModel is what a COMM says: a PCM without its samples, how many there are, and whether the lowest byte stands first.
func commModel(form, body string) (p api.PCM, count int, low bool, e api.Errno) {
	if form == "AIFF" && len(body) != 18 || form == "AIFC" && len(body) < 23 {
		return p, 0, false, api.ErrMalformed
	}
	if form == "AIFC" {
		text := int(body[22])
		if text%2 == 0 && len(body) != 24+text || text%2 == 1 && len(body) != 23+text {
			return p, 0, false, api.ErrMalformed
		}
		low = body[18:22] == "sowt"
		if !low && body[18:22] != "NONE" {
			return p, 0, false, api.ErrUnsupported
		}
	}
	p = api.PCM{Rate: rateModel(body[8:18]), Channels: number(body[:2]), Width: number(body[6:8])}
	count = number(body[2:6])
	switch {
	case p.Rate == 0:
		e = api.ErrUnsupported
	case p.Channels == 0:
		e = api.ErrMalformed
	case p.Channels > 8 || !slices.Contains(widths(), p.Width):
		e = api.ErrUnsupported
	case count > 1<<20:
		e = api.ErrLarge
	}
	return p, count, low, e
}

// parseModel is Parse's answer.
func parseModel(s string) (api.PCM, api.Aiff, api.Errno) {
	if len(s) < 12 || s[:4] != "FORM" || s[8:12] != "AIFF" && s[8:12] != "AIFC" {
		return api.PCM{}, api.Aiff{}, api.ErrUnsupported
	}
	if len(s) > 1<<26 {
		return api.PCM{}, api.Aiff{}, api.ErrLarge
	}
	if number(s[4:8]) != len(s)-8 {
		return api.PCM{}, api.Aiff{}, api.ErrMalformed
	}
	l, e := chunksModel(s[12:])
	if e != api.OK {
		return api.PCM{}, api.Aiff{}, e
	}
	p, e := takeOut(s[8:12], l)
	if e != api.OK {
		return api.PCM{}, api.Aiff{}, e
	}
	return p, api.Aiff{Form: s[8:12], Chunks: l}, api.OK
}

// takeOut takes the samples out of chunks.
func takeOut(form string, l []api.Chunk) (api.PCM, api.Errno) {
	var comms, ssnds []int
	for i, c := range l {
		switch c.Id {
		case "COMM":
			comms = append(comms, i)
		case "SSND":
			ssnds = append(ssnds, i)
		}
	}
	if len(comms) != 1 || len(ssnds) > 1 {
		return api.PCM{}, api.ErrMalformed
	}
	p, count, low, e := commModel(form, l[comms[0]].Body)
	if e != api.OK {
		return api.PCM{}, e
	}
	samples := ""
	for _, i := range ssnds {
		body := l[i].Body
		if len(body) < 8 || len(body)-8 < number(body[:4]) {
			return api.PCM{}, api.ErrMalformed
		}
		start := 8 + number(body[:4])
		l[i].Body, samples = body[:start], body[start:]
	}
	if len(samples) != count*p.Channels*(p.Width/8) {
		return api.PCM{}, api.ErrMalformed
	}
	p.Planes = planesModel(samples, p.Channels, p.Width, low)
	return p, api.OK
}

func planesModel(samples string, channels, width int, low bool) [][]int {
	planes := make([][]int, channels)
	size := width / 8
	for i := 0; i < len(samples); i += size {
		cell := []byte(samples[i : i+size])
		if low {
			slices.Reverse(cell)
		}
		v := number(string(cell))
		if v >= 1<<(width-1) {
			v -= 1 << width
		}
		c := i / size % channels
		planes[c] = append(planes[c], v)
	}
	return planes
}

// packed is samples as SSND has them.
func packed(p api.PCM, low bool) string {
	var b []byte
	for i := range p.Planes[0] {
		for _, plane := range p.Planes {
			cell := []byte(num(plane[i], p.Width/8))
			if low {
				slices.Reverse(cell)
			}
			b = append(b, cell...)
		}
	}
	return string(b)
}

// buildModel is Build's answer of a PCM that fits: of the two texts that could have this skeleton the one that tells p and a when it is read.
func buildModel(p api.PCM, a api.Aiff) (string, api.Errno) {
	for _, low := range []bool{false, true} {
		s := wrapped(a.Form, full(p, a.Chunks, low))
		q, b, e := parseModel(s)
		if e == api.OK && likePcm(p, q) && likeAiff(a, b) {
			return s, api.OK
		}
	}
	return "", api.ErrRecipe
}

// full is chunks of a skeleton with the samples behind each SSND.
func full(p api.PCM, l []api.Chunk, low bool) []api.Chunk {
	l = slices.Clone(l)
	for i := range l {
		if l[i].Id == "SSND" {
			l[i].Body += packed(p, low)
		}
	}
	return l
}

// wrapped is a text of a form with these chunks, be they right or not.
func wrapped(form string, l []api.Chunk) string {
	var b strings.Builder
	for _, c := range l {
		b.WriteString(c.Id + num(len(c.Body), 4) + c.Body)
		if len(c.Body)%2 != 0 && c.Pad != -1 {
			b.WriteByte(byte(c.Pad))
		}
	}
	return "FORM" + num(b.Len()+4, 4) + form + b.String()
}

// likePcm and likeAiff say whether two are the same, an empty list the same as none.
func likePcm(a, b api.PCM) bool {
	return a.Rate == b.Rate && a.Channels == b.Channels && a.Width == b.Width && slices.EqualFunc(a.Planes, b.Planes, slices.Equal)
}

func likeAiff(a, b api.Aiff) bool {
	return a.Form == b.Form && slices.Equal(a.Chunks, b.Chunks)
}

// short is what is told of a thing, cut off where it is long.
func short(v any) string {
	if s, ok := v.(string); ok && len(s) > 400 {
		v = s[:400]
	}
	if p, ok := v.(api.PCM); ok && len(p.Planes) > 0 && len(p.Planes[0]) > 50 {
		v = fmt.Sprint(p.Rate, p.Channels, p.Width, " of ", len(p.Planes[0]))
	}
	s := fmt.Sprintf("%+q", []any{v})
	return s[:min(len(s), 500)]
}

// parses fails, unless Parse of s tells what the model tells; it tells the error.
func parses(t *testing.T, s string) api.Errno {
	t.Helper()
	p, a, e := parseModel(s)
	isParse(t, s, p, a, e)
	return e
}

// isParse fails, unless Parse tells this PCM and skeleton, or this error and nothing beside it.
func isParse(t *testing.T, s string, p api.PCM, a api.Aiff, wanted api.Errno) {
	t.Helper()
	q, b, e := aiff.Parse(s)
	if e != wanted {
		t.Fatalf("Parse(%s): error %d, not %d", short(s), e, wanted)
	}
	if !likePcm(p, q) || !likeAiff(a, b) {
		t.Fatalf("Parse(%s): %s %s, not %s %s", short(s), short(q), short(b), short(p), short(a))
	}
}

// answers fails, unless Parse of s answers this error, and the model says so, too.
func answers(t *testing.T, what, s string, want api.Errno) {
	t.Helper()
	if e := parses(t, s); e != want {
		t.Fatalf("%s: Parse(%s): error %d, not %d", what, short(s), e, want)
	}
}

// builds fails, unless Build of a PCM that fits tells what the model tells; it tells the error.
func builds(t *testing.T, p api.PCM, a api.Aiff) api.Errno {
	t.Helper()
	s, e := buildModel(p, a)
	isBuild(t, p, a, s, e)
	return e
}

// isBuild fails, unless Build tells this text, or this error and nothing beside it.
func isBuild(t *testing.T, p api.PCM, a api.Aiff, want string, wanted api.Errno) {
	t.Helper()
	got, e := aiff.Build(p, a)
	if e != wanted || got != want {
		t.Fatalf("Build(%s, %s): %s, error %d, not %s, %d", short(p), short(a), short(got), e, short(want), wanted)
	}
}

// kind is how a file is told apart from others of the same PCM: its form, and with AIFC what its COMM names.
type kind struct {
	form, compression, text string
}

func (k kind) low() bool { return k.compression == "sowt" }

// comm is the COMM of p; the byte more, if there is one, is 9.
func (k kind) comm(p api.PCM) api.Chunk {
	return api.Chunk{Id: "COMM", Body: k.body(p.Channels, len(p.Planes[0]), p.Width, rateBytes(p.Rate))}
}

// body is the Body of a COMM of these numbers, right or not.
func (k kind) body(channels, count, width int, rate string) string {
	s := num(channels, 2) + num(count, 4) + num(width, 2) + rate
	if k.form == "AIFF" {
		return s
	}
	s += k.compression + num(len(k.text), 1) + k.text
	if len(s)%2 == 1 {
		s += "\x09"
	}
	return s
}

// aiff is a skeleton of these chunks.
func (k kind) aiff(l ...api.Chunk) api.Aiff {
	return api.Aiff{Form: k.form, Chunks: l}
}

// kinds are those that files can have.
func kinds() []kind {
	return []kind{
		{"AIFF", "", ""},
		{"AIFC", "NONE", ""}, {"AIFC", "sowt", ""},
		{"AIFC", "NONE", "not compressed"}, {"AIFC", "sowt", "odd"},
	}
}

// ssnd is an SSND as a skeleton has it, with these bytes ahead of the samples.
func ssnd(skipped string) api.Chunk {
	return api.Chunk{Id: "SSND", Body: num(len(skipped), 4) + "\x00\x00\x00\x00" + skipped}
}

// text is the file of p and a, which must be one.
func text(t *testing.T, p api.PCM, a api.Aiff) string {
	t.Helper()
	s, e := buildModel(p, a)
	if e != api.OK {
		t.Fatalf("no file: %s %s: %d", short(p), short(a), e)
	}
	return s
}

// swapped is s with other bytes from a place on.
func swapped(s string, at int, bytes string) string {
	return s[:at] + bytes + s[at+len(bytes):]
}

// mended is s, a file whose length was changed, with the number that goes with it.
func mended(s string) string {
	if len(s) < 8 {
		return s
	}
	return swapped(s, 4, num(len(s)-8, 4))
}

// one is a PCM of one channel.
func one(width int, plane ...int) api.PCM {
	return api.PCM{Rate: 8000, Channels: 1, Width: width, Planes: [][]int{plane}}
}

// quiet is a PCM of so many channels and samples, each 0.
func quiet(channels, width, length int) api.PCM {
	p := api.PCM{Rate: 44100, Channels: channels, Width: width}
	for range channels {
		p.Planes = append(p.Planes, make([]int, length))
	}
	return p
}

func widths() []int { return []int{8, 16, 24, 32} }

// numbers is a fixed row of numbers that look like chance (SplitMix64).
type numbers uint64

func (r *numbers) next() uint64 {
	*r += 0x9e3779b97f4a7c15
	x := uint64(*r)
	x = (x ^ x>>30) * 0xbf58476d1ce4e5b9
	x = (x ^ x>>27) * 0x94d049bb133111eb
	return x ^ x>>31
}

func (r *numbers) below(n int) int { return int(r.next() % uint64(n)) }

// text is count bytes.
func (r *numbers) text(count int) string {
	s := make([]byte, count)
	for i := range s {
		s[i] = byte(r.next())
	}
	return string(s)
}

// pcm is one that fits.
func (r *numbers) pcm(channels, width, length int) api.PCM {
	p := quiet(channels, width, length)
	p.Rate = 1 + r.below(api.MaxRate)
	for _, plane := range p.Planes {
		for i := range plane {
			plane[i] = int(int64(r.next()) >> (64 - width) >> r.below(width))
		}
	}
	return p
}

// any is a PCM that fits, of up to length samples.
func (r *numbers) any(length int) api.PCM {
	return r.pcm(1+r.below(8), 8*(1+r.below(4)), r.below(length+1))
}

// kind is one that a file can have, with a text of up to 255 bytes.
func (r *numbers) kind() kind {
	k := kinds()[r.below(len(kinds()))]
	if k.form == "AIFC" {
		k.text = r.text(r.below(256) >> r.below(8))
	}
	return k
}

// chunk is a foreign chunk that may stand anywhere.
func (r *numbers) chunk() api.Chunk {
	id := make([]byte, 4)
	for i := range id {
		id[i] = byte(32 + r.below(95))
	}
	names := []string{"FVER", "NAME", "MARK", "comm", "SSNd", "ID3 "}
	c := api.Chunk{Id: string(id), Body: r.text(r.below(9))}
	if n := r.below(2 * len(names)); n < len(names) {
		c.Id = names[n]
	}
	if len(c.Body)%2 == 1 {
		c.Pad = r.below(256)
	}
	return c
}

// chunks are up to most foreign ones.
func (r *numbers) chunks(most int) []api.Chunk {
	var l []api.Chunk
	for range r.below(most + 1) {
		l = append(l, r.chunk())
	}
	return l
}

// aiff is a skeleton of p.
func (r *numbers) aiff(p api.PCM) api.Aiff {
	k := r.kind()
	comm := k.comm(p)
	sound := ssnd(r.text(r.below(5) * r.below(2)))
	sound.Body = swapped(sound.Body, 4, r.text(4))
	length := len(sound.Body) + len(packed(p, false))
	if length%2 == 1 {
		sound.Pad = r.below(256)
	}
	first, second := comm, sound
	if r.below(3) == 0 {
		first, second = sound, comm
	}
	l := append(append(append(append(r.chunks(2), first), r.chunks(2)...), second), r.chunks(2)...)
	if len(p.Planes[0]) == 0 && r.below(2) == 0 {
		l = slices.DeleteFunc(l, func(c api.Chunk) bool { return c.Id == "SSND" })
	}
	last := &l[len(l)-1]
	isOdd := len(last.Body)%2 == 1
	if last.Id == "SSND" {
		isOdd = length%2 == 1
	}
	if isOdd && r.below(2) == 0 {
		last.Pad = -1
	}
	return k.aiff(l...)
}
