package oggflac_test

import (
	"fmt"
	"slices"
	"strings"
	"testing"

	"lacquer/api"
	"lacquer/flac"
	"lacquer/frame"
	"lacquer/meta"
	"lacquer/oggflac"
	"lacquer/page"
	"lacquer/pcm"
)

// The tests hold the package against the chapter's words spelt out. Pages, metadata, frames and digests are those of layers 5, 11, 13, 14 and 15, whose tests are their own.

// blockOf is the block of a packet of the metadata: all of it, but of the first one what stands behind its mark.
func blockOf(packets []string, k int) string {
	if k == 0 {
		return packets[0][13:]
	}
	return packets[k]
}

// isLast says whether a block has the byte 128 set.
func isLast(block string) bool { return block != "" && block[0] >= 128 }

// isOneBlock says whether s is just one block.
func isOneBlock(s string) bool {
	return len(s) >= 4 && len(s) == 4+int(s[1])<<16+int(s[2])<<8+int(s[3])
}

// granules is the Granule that each page has to have: of the packets that end in it or ahead of it all but the metadata's are frames.
func granules(pages []api.Page, blocks int, frames []api.Frame) []int {
	l := make([]int, len(pages))
	ended, samples := 0, 0
	for k, p := range pages {
		l[k] = -1
		for _, lace := range p.Laces {
			if lace == 255 {
				continue
			}
			if at := ended - blocks; at >= 0 && at < len(frames) {
				samples += frames[at].Size
			}
			ended++
			l[k] = samples
		}
	}
	return l
}

// sizes is how many samples the frames have together.
func sizes(l []api.Frame) int {
	n := 0
	for _, f := range l {
		n += f.Size
	}
	return n
}

// fileModel is what Parse answers of a text of whatever length.
func fileModel(s string) (api.PCM, api.Ogg, api.Errno) {
	bad := func(e api.Errno) (api.PCM, api.Ogg, api.Errno) { return api.PCM{}, api.Ogg{}, e }
	if !strings.HasPrefix(s, "OggS") {
		return bad(api.ErrUnsupported)
	}
	pages, packets, e := page.Parse(s)
	if e != api.OK {
		return bad(e)
	}
	if len(packets) == 0 || len(packets[0]) != 51 || packets[0][:5] != "\x7fFLAC" || packets[0][9:13] != "fLaC" {
		return bad(api.ErrMalformed)
	}
	o := api.Ogg{Major: int(packets[0][5]), Minor: int(packets[0][6]), Count: int(packets[0][7])<<8 + int(packets[0][8]), Pages: pages}
	if o.Major != 1 {
		return bad(api.ErrUnsupported)
	}
	count := 0
	for k := range packets {
		if isLast(blockOf(packets, k)) {
			count = k + 1
			break
		}
	}
	if count == 0 {
		return bad(api.ErrMalformed)
	}
	o.Flac.Blocks, _, e = meta.Parse(blockOf(packets, 0) + strings.Join(packets[1:count], ""))
	if e != api.OK {
		return bad(e)
	}
	for k := range count {
		if !isOneBlock(blockOf(packets, k)) {
			return bad(api.ErrMalformed)
		}
	}
	if o.Count != 0 && o.Count != count-1 {
		return bad(api.ErrMalformed)
	}
	return framesModel(o, packets[count:])
}

// framesModel is what Parse answers of the packets behind the metadata.
func framesModel(o api.Ogg, packets []string) (api.PCM, api.Ogg, api.Errno) {
	i := infoOf(o.Flac.Blocks)
	planes, frames, e := flac.Frames(strings.Join(packets, ""), i)
	if e != api.OK {
		return api.PCM{}, api.Ogg{}, e
	}
	wrong := !slices.Equal(o.Pages[0].Laces, []int{51})
	for _, s := range packets {
		_, _, n, e := frame.Parse(s, i)
		wrong = wrong || e != api.OK || n != len(s)
	}
	for k, n := range granules(o.Pages, len(o.Flac.Blocks), frames) {
		wrong = wrong || o.Pages[k].Granule != n
	}
	p := api.PCM{Rate: i.Rate, Channels: i.Channels, Width: i.Width, Planes: planes}
	digest, _ := pcm.Digest(p)
	wrong = wrong || i.Samples != 0 && i.Samples != sizes(frames)
	wrong = wrong || i.Digest != noughts && i.Digest != digest
	if wrong {
		return api.PCM{}, api.Ogg{}, api.ErrMalformed
	}
	o.Flac.Frames = frames
	return p, o, api.OK
}

// parseModel is what Parse answers.
func parseModel(s string) (api.PCM, api.Ogg, api.Errno) {
	if len(s) > 67108864 {
		return api.PCM{}, api.Ogg{}, api.ErrLarge
	}
	return fileModel(s)
}

// infoOf is what the first block says, be it right or not.
func infoOf(l []api.Block) api.StreamInfo {
	i, _ := meta.Info(l[0].Body)
	return i
}

// packetsModel is the packets of the stream of p and f, behind what the first one says of itself; false, if a part of them cannot be.
func packetsModel(p api.PCM, o api.Ogg) ([]string, bool) {
	blocks, e := meta.Build(o.Flac.Blocks)
	if e != api.OK || min(o.Major, o.Minor, o.Count) < 0 || max(o.Major, o.Minor, o.Count>>8) > 255 {
		return nil, false
	}
	first := "\x7fFLAC" + string([]byte{byte(o.Major), byte(o.Minor), byte(o.Count >> 8), byte(o.Count)}) + "fLaC"
	var packets []string
	for _, b := range o.Flac.Blocks {
		n := 4 + len(b.Body)
		packets = append(packets, first+blocks[:n])
		first, blocks = "", blocks[n:]
	}
	at := 0
	for _, f := range o.Flac.Frames {
		if f.Size < 1 || f.Size > pcm.Len(p)-at {
			return nil, false
		}
		s, e := frame.Build(f, infoOf(o.Flac.Blocks), part(p.Planes, at, at+f.Size))
		if e != api.OK {
			return nil, false
		}
		packets, at = append(packets, s), at+f.Size
	}
	return packets, true
}

// buildModel is what Build answers: the text that would be laid, if it is told as p and o.
func buildModel(p api.PCM, o api.Ogg) (string, api.Errno) {
	if e := pcm.Fits(api.FormatOgg, p); e != api.OK {
		return "", e
	}
	packets, ok := packetsModel(p, o)
	if !ok {
		return "", api.ErrRecipe
	}
	s, e := page.Build(o.Pages, packets)
	if e != api.OK {
		return "", api.ErrRecipe
	}
	q, x, e := fileModel(s)
	if e != api.OK || !pcm.Same(p, q) || !sameOgg(o, x) {
		return "", api.ErrRecipe
	}
	if len(s) > 67108864 {
		return "", api.ErrLarge
	}
	return s, api.OK
}

// layModel is what Lay answers.
func layModel(p api.PCM, f api.Flac) (api.Ogg, api.Errno) {
	if e := pcm.Fits(api.FormatOgg, p); e != api.OK {
		return api.Ogg{}, e
	}
	if _, e := flac.Build(p, f); e != api.OK {
		return api.Ogg{}, e
	}
	o := api.Ogg{Major: 1, Minor: 0, Count: len(f.Blocks) - 1, Flac: f}
	packets, _ := packetsModel(p, o)
	total := 0
	var lengths []int
	for _, s := range packets {
		lengths, total = append(lengths, len(s)), total+len(s)
	}
	for _, laces := range page.Lace(lengths, 255) {
		o.Pages = append(o.Pages, api.Page{Laces: laces})
		total += 27 + len(laces)
	}
	if total > 67108864 {
		return api.Ogg{}, api.ErrLarge
	}
	headed(o.Pages, 1, o.Flac)
	return o, api.OK
}

// headed gives pages the heads that they have to have.
func headed(l []api.Page, serial int, f api.Flac) {
	isOpen := false
	for k, n := range granules(l, len(f.Blocks), f.Frames) {
		p := &l[k]
		p.Serial, p.Seq, p.Flags, p.Granule = serial, k, 0, n
		if isOpen {
			p.Flags |= 1
		}
		if k == 0 {
			p.Flags |= 2
		}
		if k == len(l)-1 {
			p.Flags |= 4
		}
		if n := len(p.Laces); n > 0 {
			isOpen = p.Laces[n-1] == 255
		}
	}
}

// part is what planes have from one place on up to another.
func part(planes [][]int, from, to int) [][]int {
	var l [][]int
	for _, plane := range planes {
		l = append(l, plane[from:to])
	}
	return l
}

// sameOgg says whether two skeletons say the same.
func sameOgg(a, b api.Ogg) bool {
	return a.Major == b.Major && a.Minor == b.Minor && a.Count == b.Count && slices.EqualFunc(a.Pages, b.Pages, samePage) && sameFlac(a.Flac, b.Flac)
}

func samePage(a, b api.Page) bool {
	return a.Flags == b.Flags && a.Serial == b.Serial && a.Seq == b.Seq && a.Granule == b.Granule && slices.Equal(a.Laces, b.Laces)
}

func sameFlac(a, b api.Flac) bool {
	return slices.Equal(a.Blocks, b.Blocks) && slices.EqualFunc(a.Frames, b.Frames, sameFrame)
}

func sameFrame(a, b api.Frame) bool {
	return a.Variable == b.Variable && a.Number == b.Number && a.Size == b.Size && a.SizeCode == b.SizeCode && a.RateCode == b.RateCode &&
		a.WidthCode == b.WidthCode && a.Mode == b.Mode && slices.EqualFunc(a.Subs, b.Subs, sameSub)
}

func sameSub(a, b api.Sub) bool {
	alike := a.Kind == b.Kind && a.Order == b.Order && a.Wasted == b.Wasted && a.Precision == b.Precision && a.Shift == b.Shift
	return alike && slices.Equal(a.Coefs, b.Coefs) && a.Rice.Method == b.Rice.Method && a.Rice.Order == b.Rice.Order &&
		slices.Equal(a.Rice.Params, b.Rice.Params) && slices.Equal(a.Rice.Escapes, b.Rice.Escapes)
}

// short is a thing's beginning, for what a test says.
func short(a any) string {
	if s, ok := a.(string); ok {
		return fmt.Sprintf("%d bytes %.120x", len(s), s)
	}
	return fmt.Sprintf("%.300s", fmt.Sprintf("%+v", a))
}

// parses fails, unless Parse tells what the model tells; it tells the error.
func parses(t *testing.T, s string) api.Errno {
	t.Helper()
	wantPcm, wantOgg, want := parseModel(s)
	p, o, e := oggflac.Parse(s)
	if e != want || !pcm.Same(p, wantPcm) || !sameOgg(o, wantOgg) {
		t.Fatalf("Parse(%s): %s, %s, error %d; not %s, %s, %d", short(s), short(p), short(o), e, short(wantPcm), short(wantOgg), want)
	}
	return e
}

// isParse fails, unless Parse answers this error (OK: what the model tells).
func isParse(t *testing.T, what, s string, want api.Errno) {
	t.Helper()
	if e := parses(t, s); e != want {
		t.Fatalf("%s: Parse(%s): error %d, not %d", what, short(s), e, want)
	}
}

// tells fails, unless Parse of s is just this.
func tells(t *testing.T, s string, p api.PCM, o api.Ogg) {
	t.Helper()
	q, x, e := oggflac.Parse(s)
	if e != api.OK || !pcm.Same(p, q) || !sameOgg(o, x) {
		t.Fatalf("Parse(%s): %s, %s, error %d; not %s, %s", short(s), short(q), short(x), e, short(p), short(o))
	}
}

// builds fails, unless Build tells what the model tells; it tells the error.
func builds(t *testing.T, p api.PCM, o api.Ogg) api.Errno {
	t.Helper()
	want, wanted := buildModel(p, o)
	if s, e := oggflac.Build(p, o); s != want || e != wanted {
		t.Fatalf("Build(%s, %s): %s, error %d; not %s, %d", short(p), short(o), short(s), e, short(want), wanted)
	}
	return wanted
}

// isBuild fails, unless Build answers this error (OK: what the model tells).
func isBuild(t *testing.T, what string, p api.PCM, o api.Ogg, want api.Errno) {
	t.Helper()
	if e := builds(t, p, o); e != want {
		t.Fatalf("%s: Build(%s, %s): error %d, not %d", what, short(p), short(o), e, want)
	}
}

// refuses fails, unless Build answers this error and nothing beside it; the model is not asked, which lays all that there is.
func refuses(t *testing.T, what string, p api.PCM, o api.Ogg, want api.Errno) {
	t.Helper()
	if s, e := oggflac.Build(p, o); s != "" || e != want {
		t.Fatalf("%s: Build(%s, %s): %s, error %d, not %d", what, short(p), short(o), short(s), e, want)
	}
}

// isLay fails, unless Lay tells what the model tells, with this error, and Build takes it; it tells what Lay tells.
func isLay(t *testing.T, what string, p api.PCM, f api.Flac, want api.Errno) api.Ogg {
	t.Helper()
	wanted, e := layModel(p, f)
	if e != want {
		t.Fatalf("%s: the model answers %d", what, e)
	}
	o, e := oggflac.Lay(p, f)
	if e != want || !sameOgg(o, wanted) {
		t.Fatalf("%s: Lay(%s, %s): %s, error %d; not %s, %d", what, short(p), short(f), short(o), e, short(wanted), want)
	}
	if e == api.OK {
		isBuild(t, what, p, o, api.OK)
	}
	return o
}

// isPlain fails, unless Plain tells Lay of what flac.Plain tells, with this error; it tells that.
func isPlain(t *testing.T, what string, p api.PCM, level int, want api.Errno) api.Ogg {
	t.Helper()
	f, e := flac.Plain(p, level)
	var wanted api.Ogg
	if e == api.OK {
		wanted, e = layModel(p, f)
	}
	if e != want {
		t.Fatalf("%s: the model answers %d", what, e)
	}
	o, e := oggflac.Plain(p, level)
	if e != want || !sameOgg(o, wanted) {
		t.Fatalf("%s: Plain(%s, %d): %s, error %d; not %s, %d", what, short(p), level, short(o), e, short(wanted), want)
	}
	return o
}
