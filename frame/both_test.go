package frame_test

import (
	"testing"

	"lacquer/api"
	"lacquer/frame"
)

// Promise 11.4.

// isThereAndBack fails, unless Parse of what Build tells, with something behind it, is the frame and its planes.
func isThereAndBack(t *testing.T, s sample, behind string) {
	t.Helper()
	text, e := frame.Build(s.frame, s.info, s.planes)
	l, f, n, h := frame.Parse(text+behind, s.info)
	if e != api.OK || h != api.OK || n != len(text) || !samePlanes(l, s.planes) || !sameFrame(f, s.frame) {
		t.Fatalf("%s became %s, %s, %d of %d, errors %d, %d", short(s), short(f), short(l), n, len(text), e, h)
	}
}

// comesBack fails, unless Build of what Parse tells of a text, if anything, is the bytes that it used; it says whether there was something.
func comesBack(t *testing.T, text string, i api.StreamInfo) bool {
	t.Helper()
	l, f, n, e := frame.Parse(text, i)
	if e != api.OK {
		return false
	}
	isCheck(t, f, i, api.OK)
	isBuild(t, sample{f, i, l}, text[:n])
	return true
}

func TestThereAndBack(t *testing.T) {
	r := numbers(1141)
	for range 5000 {
		isThereAndBack(t, r.sample(), r.text(r.below(20)))
	}
	for channels := 1; channels <= 8; channels++ {
		for _, size := range []int{1152, 2048, 2304, 4096, 4607, 4608} {
			isThereAndBack(t, r.sampleOf(channels, size), "behind")
		}
	}
}

// Each mode with all pairs of samples of a width.
func TestAllPairsThereAndBack(t *testing.T) {
	for _, width := range []int{4, 5, 6} {
		s := sample{info: stream(2, width, 44100), planes: [][]int{{}, {}}}
		for a := -power(width - 1); a < power(width-1); a++ {
			for b := -power(width - 1); b < power(width-1); b++ {
				s.planes[0], s.planes[1] = append(s.planes[0], a), append(s.planes[1], b)
			}
		}
		for mode := range 4 {
			s.frame = api.Frame{Size: len(s.planes[0]), SizeCode: 7, Mode: mode, Subs: verbatim(2)}
			isThereAndBack(t, s, "\xff")
			isBuild(t, s, textOf(s))
		}
	}
}

// Frames, one behind the other, are read one behind the other.
func TestRows(t *testing.T) {
	r := numbers(1142)
	i := stream(2, 16, 44100)
	text := ""
	var row []sample
	for len(row) < 300 {
		s := r.sampleOf(2, 1+r.below(40))
		s.frame.RateCode, s.frame.WidthCode = 0, 0
		s.info.Rate = i.Rate
		if s.info.Width != i.Width {
			continue
		}
		b, _ := frame.Build(s.frame, i, s.planes)
		text, row = text+b, append(row, s)
	}
	for _, s := range row {
		l, f, n, e := frame.Parse(text, i)
		if e != api.OK || !samePlanes(l, s.planes) || !sameFrame(f, s.frame) {
			t.Fatalf("%s, error %d", short(s), e)
		}
		text = text[n:]
	}
	if text != "" {
		t.Errorf("%d bytes are left", len(text))
	}
}

// What Parse tells of texts that were spoilt, with sums that are right, is built again as it was.
func TestBackAndThere(t *testing.T) {
	r := numbers(1143)
	told := 0
	for range 30000 {
		s := r.sampleOf(1+r.below(3), 1+r.below(12))
		w := rawOf(s)
		for range 1 + r.below(2) {
			r.spoil(&w)
		}
		if comesBack(t, w.text()+r.text(r.below(3)), s.info) {
			told++
		}
	}
	if told < 3000 {
		t.Errorf("%d texts alone were told", told)
	}
}

// FuzzParse looks for a text that is told wrongly, or that does not come back; as it is, and with sums that are right for it.
func FuzzParse(f *testing.F) {
	f.Add(exampleText, 1, 8, 8000)
	f.Add(wideText, 2, 16, 44100)
	r := numbers(1144)
	for range 20 {
		s := r.sampleOf(1+r.below(8), 1+r.below(12))
		f.Add(textOf(s), s.info.Channels, s.info.Width, s.info.Rate)
	}
	f.Fuzz(func(t *testing.T, text string, channels, width, rate int) {
		i := stream(channels, width, rate)
		for _, s := range []string{text, mended(text)} {
			isParseAsModel(t, s, i)
			comesBack(t, s, i)
		}
	})
}

// mended is the text with sums that are right for it, if it has a head.
func mended(text string) string {
	r, _, _, count, _ := headModel(text)
	if count == 0 || len(text) < count+2 {
		return text
	}
	r.body = digitsOf(text[count : len(text)-2])
	return r.text()
}
