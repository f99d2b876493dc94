package flac_test

import (
	"fmt"
	"slices"
	"strings"
	"testing"

	"lacquer/api"
	"lacquer/flac"
	"lacquer/frame"
	"lacquer/meta"
	"lacquer/pcm"
	"lacquer/search"
)

// The tests hold the package against the chapter's words spelt out. Frames, metadata and digests are those of layers 5, 11, 12 and 13, whose tests are their own.

// sizes is how many samples the frames have together.
func sizes(l []api.Frame) int {
	n := 0
	for _, f := range l {
		n += f.Size
	}
	return n
}

// speaksAgainst is what 14.1 says of f behind the frames ahead of it.
func speaksAgainst(f api.Frame, ahead []api.Frame, i api.StreamInfo, samples int) api.Errno {
	wrong := f.Size > i.MaxBlock
	wrong = wrong || f.Variable && f.Number != samples || !f.Variable && f.Number != len(ahead)
	if len(ahead) > 0 {
		first, last := ahead[0], ahead[len(ahead)-1]
		wrong = wrong || f.Variable != first.Variable || last.Size < i.MinBlock
		wrong = wrong || !f.Variable && (last.Size != first.Size || f.Size > first.Size)
	}
	if wrong {
		return api.ErrMalformed
	}
	if samples+f.Size > 1048576 {
		return api.ErrLarge
	}
	return api.OK
}

// framesModel is what Frames answers.
func framesModel(s string, i api.StreamInfo) ([][]int, []api.Frame, api.Errno) {
	var planes [][]int
	if i.Channels >= 1 && i.Channels <= 8 {
		planes = make([][]int, i.Channels)
	}
	var l []api.Frame
	samples := 0
	for s != "" {
		blocks, f, n, e := frame.Parse(s, i)
		if e != api.OK {
			return nil, nil, e
		}
		if e := speaksAgainst(f, l, i, samples); e != api.OK {
			return nil, nil, e
		}
		for c := range planes {
			planes[c] = append(planes[c], blocks[c]...)
		}
		l, s, samples = append(l, f), s[n:], samples+f.Size
	}
	return planes, l, api.OK
}

// fileModel is what Parse answers of a text of whatever length.
func fileModel(s string) (api.PCM, api.Flac, api.Errno) {
	bad := func(e api.Errno) (api.PCM, api.Flac, api.Errno) { return api.PCM{}, api.Flac{}, e }
	if !strings.HasPrefix(s, "fLaC") {
		return bad(api.ErrUnsupported)
	}
	blocks, n, e := meta.Parse(s[4:])
	if e != api.OK {
		return bad(e)
	}
	i := infoOf(blocks)
	planes, l, e := framesModel(s[4+n:], i)
	if e != api.OK {
		return bad(e)
	}
	p := api.PCM{Rate: i.Rate, Channels: i.Channels, Width: i.Width, Planes: planes}
	if i.Samples != 0 && i.Samples != sizes(l) {
		return bad(api.ErrMalformed)
	}
	digest, _ := pcm.Digest(p)
	if i.Digest != strings.Repeat("\x00", 16) && i.Digest != digest {
		return bad(api.ErrMalformed)
	}
	return p, api.Flac{Blocks: blocks, Frames: l}, api.OK
}

// parseModel is what Parse answers.
func parseModel(s string) (api.PCM, api.Flac, api.Errno) {
	if len(s) > 67108864 {
		return api.PCM{}, api.Flac{}, api.ErrLarge
	}
	return fileModel(s)
}

// infoOf is what the first block says, be it right or not.
func infoOf(l []api.Block) api.StreamInfo {
	i, _ := meta.Info(l[0].Body)
	return i
}

// layModel is the only text that can be a file of p and f; false, if a part of it cannot be.
func layModel(p api.PCM, f api.Flac) (string, bool) {
	blocks, e := meta.Build(f.Blocks)
	if e != api.OK {
		return "", false
	}
	s := "fLaC" + blocks
	at := 0
	for _, g := range f.Frames {
		if g.Size < 1 || g.Size > pcm.Len(p)-at {
			return "", false
		}
		t, e := frame.Build(g, infoOf(f.Blocks), part(p.Planes, at, at+g.Size))
		if e != api.OK {
			return "", false
		}
		s, at = s+t, at+g.Size
	}
	return s, true
}

// buildModel is what Build answers: the text that would be laid, if it is told as p and f.
func buildModel(p api.PCM, f api.Flac) (string, api.Errno) {
	if e := pcm.Fits(api.FormatFlac, p); e != api.OK {
		return "", e
	}
	s, ok := layModel(p, f)
	if !ok {
		return "", api.ErrRecipe
	}
	q, g, e := fileModel(s)
	if e != api.OK || !pcm.Same(p, q) || !sameFlac(f, g) {
		return "", api.ErrRecipe
	}
	if len(s) > 67108864 {
		return "", api.ErrLarge
	}
	return s, api.OK
}

// plainModel is what Plain answers.
func plainModel(p api.PCM, level int) (api.Flac, api.Errno) {
	if level < 0 || level > 2 {
		return api.Flac{}, api.ErrArg
	}
	if e := pcm.Fits(api.FormatFlac, p); e != api.OK {
		return api.Flac{}, e
	}
	n, samples := []int{1152, 4096, 4096}[level], len(p.Planes[0])
	digest, _ := pcm.Digest(p)
	i := api.StreamInfo{MinBlock: n, MaxBlock: n, Rate: p.Rate, Channels: p.Channels, Width: p.Width, Samples: samples, Digest: digest}
	var l []api.Frame
	var lengths []int
	for k := 0; k*n < samples; k++ {
		blocks := part(p.Planes, k*n, min(k*n+n, samples))
		f, _ := search.Frame(i, k, blocks, level)
		s, _ := frame.Build(f, i, blocks)
		l, lengths = append(l, f), append(lengths, len(s))
	}
	if len(l) > 0 {
		i.MinFrame, i.MaxFrame = slices.Min(lengths), slices.Max(lengths)
	}
	return api.Flac{Blocks: []api.Block{{Body: layInfo(i)}}, Frames: l}, api.OK
}

// part is what planes have from one place on up to another.
func part(planes [][]int, from, to int) [][]int {
	var l [][]int
	for _, plane := range planes {
		l = append(l, plane[from:to])
	}
	return l
}

// layInfo is the STREAMINFO that says i, which may be.
func layInfo(i api.StreamInfo) string {
	s, e := meta.LayInfo(i)
	if e != api.OK {
		panic(fmt.Sprint("no STREAMINFO says ", i))
	}
	return s
}

// metadata is the bytes of blocks that may be.
func metadata(l ...api.Block) string {
	s, e := meta.Build(l)
	if e != api.OK {
		panic(fmt.Sprint("no metadata is ", short(l)))
	}
	return s
}

// sameFlac says whether two skeletons say the same.
func sameFlac(a, b api.Flac) bool {
	return slices.Equal(a.Blocks, b.Blocks) && slices.EqualFunc(a.Frames, b.Frames, sameFrame)
}

func sameFrame(a, b api.Frame) bool {
	return a.Variable == b.Variable && a.Number == b.Number && a.Size == b.Size && a.SizeCode == b.SizeCode && a.RateCode == b.RateCode &&
		a.WidthCode == b.WidthCode && a.Mode == b.Mode && slices.EqualFunc(a.Subs, b.Subs, sameSub)
}

func sameSub(a, b api.Sub) bool {
	alike := a.Kind == b.Kind && a.Order == b.Order && a.Wasted == b.Wasted && a.Precision == b.Precision && a.Shift == b.Shift
	return alike && slices.Equal(a.Coefs, b.Coefs) && a.Rice.Method == b.Rice.Method && a.Rice.Order == b.Rice.Order &&
		slices.Equal(a.Rice.Params, b.Rice.Params) && slices.Equal(a.Rice.Escapes, b.Rice.Escapes)
}

// samePlanes says whether the samples are the same.
func samePlanes(a, b [][]int) bool { return slices.EqualFunc(a, b, slices.Equal) }

// short is a thing's beginning, for what a test says.
func short(a any) string {
	if s, ok := a.(string); ok {
		return fmt.Sprintf("%d bytes %.80x", len(s), s)
	}
	return fmt.Sprintf("%.200s", fmt.Sprintf("%+v", a))
}

// reads fails, unless Frames tells what the model tells; it tells the error.
func reads(t *testing.T, s string, i api.StreamInfo) api.Errno {
	t.Helper()
	wantPlanes, wantFrames, want := framesModel(s, i)
	planes, l, e := flac.Frames(s, i)
	if e != want || !samePlanes(planes, wantPlanes) || !slices.EqualFunc(l, wantFrames, sameFrame) {
		t.Fatalf("Frames(%s, %s): %s, %s, error %d; not %s, %s, %d", short(s), short(i), short(planes), short(l), e, short(wantPlanes), short(wantFrames), want)
	}
	return e
}

// isFrames fails, unless Frames answers this error (OK: what the model tells).
func isFrames(t *testing.T, what, s string, i api.StreamInfo, want api.Errno) {
	t.Helper()
	if e := reads(t, s, i); e != want {
		t.Fatalf("%s: Frames(%s, %s): error %d, not %d", what, short(s), short(i), e, want)
	}
}

// parses fails, unless Parse tells what the model tells; it tells the error.
func parses(t *testing.T, s string) api.Errno {
	t.Helper()
	wantPcm, wantFlac, want := parseModel(s)
	p, f, e := flac.Parse(s)
	if e != want || !pcm.Same(p, wantPcm) || !sameFlac(f, wantFlac) {
		t.Fatalf("Parse(%s): %s, %s, error %d; not %s, %s, %d", short(s), short(p), short(f), e, short(wantPcm), short(wantFlac), want)
	}
	return e
}

// isParse fails, unless Parse answers this error (OK: what the model tells).
func isParse(t *testing.T, what, s string, want api.Errno) {
	t.Helper()
	if e := parses(t, s); e != want {
		t.Fatalf("%s: Parse(%s): error %d, not %d", what, short(s), e, want)
	}
}

// tells fails, unless Parse of s is just this.
func tells(t *testing.T, s string, p api.PCM, f api.Flac) {
	t.Helper()
	q, g, e := flac.Parse(s)
	if e != api.OK || !pcm.Same(p, q) || !sameFlac(f, g) {
		t.Fatalf("Parse(%s): %s, %s, error %d; not %s, %s", short(s), short(q), short(g), e, short(p), short(f))
	}
}

// builds fails, unless Build tells what the model tells; it tells the error.
func builds(t *testing.T, p api.PCM, f api.Flac) api.Errno {
	t.Helper()
	want, wanted := buildModel(p, f)
	if s, e := flac.Build(p, f); s != want || e != wanted {
		t.Fatalf("Build(%s, %s): %s, error %d; not %s, %d", short(p), short(f), short(s), e, short(want), wanted)
	}
	return wanted
}

// isBuild fails, unless Build answers this error (OK: what the model tells).
func isBuild(t *testing.T, what string, p api.PCM, f api.Flac, want api.Errno) {
	t.Helper()
	if e := builds(t, p, f); e != want {
		t.Fatalf("%s: Build(%s, %s): error %d, not %d", what, short(p), short(f), e, want)
	}
}

// refuses fails, unless Build answers this error and nothing beside it; the model is not asked, which lays all that there is.
func refuses(t *testing.T, what string, p api.PCM, f api.Flac, want api.Errno) {
	t.Helper()
	if s, e := flac.Build(p, f); s != "" || e != want {
		t.Fatalf("%s: Build(%s, %s): %s, error %d, not %d", what, short(p), short(f), short(s), e, want)
	}
}

// isPlain fails, unless Plain tells what the model tells, with this error.
func isPlain(t *testing.T, what string, p api.PCM, level int, want api.Errno) {
	t.Helper()
	wanted, e := plainModel(p, level)
	if e != want {
		t.Fatalf("%s: the model answers %d", what, e)
	}
	if f, e := flac.Plain(p, level); e != want || !sameFlac(f, wanted) {
		t.Fatalf("%s: Plain(%s, %d): %s, error %d; not %s, %d", what, short(p), level, short(f), e, short(wanted), want)
	}
}
