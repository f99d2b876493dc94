package frame_test

import (
	"fmt"
	mathbits "math/bits"
	"slices"
	"strings"
	"testing"

	"lacquer/api"
	"lacquer/bits"
	"lacquer/bytes"
	"lacquer/frame"
	"lacquer/subframe"
	"lacquer/sums"
)

// The tests hold the package against the chapter's words spelt out on texts of digits '0' and '1'. Coded numbers, sums and subframes are those of layers 2, 3 and 10, whose tests are their own.

// digits is the width lowest bits of n.
func digits(n, width int) string {
	d := make([]byte, width)
	for i := range d {
		d[width-1-i] = '0' + byte(n&1)
		n >>= 1
	}
	return string(d)
}

// packed is digits as a text, with bits 0 up to a whole byte.
func packed(d string) string {
	s := make([]byte, (len(d)+7)/8)
	for i := range len(d) {
		s[i/8] |= (d[i] - '0') << (7 - i%8)
	}
	return string(s)
}

// digitsOf is the bits of a text.
func digitsOf(s string) string {
	var d strings.Builder
	for i := range len(s) {
		d.WriteString(digits(int(s[i]), 8))
	}
	return d.String()
}

// number is what digits say.
func number(d string) int {
	n := 0
	for _, c := range d {
		n = 2*n + int(c-'0')
	}
	return n
}

// power is 2^n.
func power(n int) int {
	p := 1
	for range n {
		p *= 2
	}
	return p
}

// within says whether n is from -2^(width - 1) to 2^(width - 1) - 1.
func within(n, width int) bool {
	return n >= -power(width-1) && n <= power(width-1)-1
}

// The chapter's codes.
var (
	sizeCodes  = map[int]int{1: 192, 2: 576, 3: 1152, 4: 2304, 5: 4608, 8: 256, 9: 512, 10: 1024, 11: 2048, 12: 4096, 13: 8192, 14: 16384, 15: 32768}
	rateCodes  = map[int]int{1: 88200, 2: 176400, 3: 192000, 4: 8000, 5: 16000, 6: 22050, 7: 24000, 8: 32000, 9: 44100, 10: 48000, 11: 96000}
	widthCodes = map[int]int{1: 8, 2: 12, 4: 16, 5: 20, 6: 24}
)

// saysSize says whether the code can say the size.
func saysSize(code, size int) bool {
	switch code {
	case 6:
		return size >= 1 && size <= 256
	case 7:
		return size >= 1 && size <= 65536
	}
	n, ok := sizeCodes[code]
	return ok && n == size
}

// saysRate says whether the code can say the stream's rate.
func saysRate(code, rate int) bool {
	switch code {
	case 0:
		return true
	case 12:
		return rate%1000 == 0 && rate <= 255000
	case 13:
		return rate <= 65535
	case 14:
		return rate%10 == 0 && rate <= 655350
	}
	n, ok := rateCodes[code]
	return ok && n == rate
}

// saysWidth says whether the code can say the stream's width.
func saysWidth(code, width int) bool {
	n, ok := widthCodes[code]
	return code == 0 || ok && n == width
}

// mayHaveFrames is the chapter's 'A stream may have frames'.
func mayHaveFrames(i api.StreamInfo) bool {
	return i.Channels >= 1 && i.Channels <= 8 && i.Width >= 4 && i.Width <= 24 && i.Rate >= 1
}

// inBounds says whether the Size and the Number may be.
func inBounds(f api.Frame) bool {
	most := power(31) - 1
	if f.Variable {
		most = power(36) - 1
	}
	return f.Size >= 1 && f.Size <= 4608 && f.Number >= 0 && f.Number <= most
}

// widthOf is a subframe's width.
func widthOf(mode, channel, width int) int {
	if mode == api.ModeRight && channel == 0 || (mode == api.ModeLeft || mode == api.ModeMid) && channel == 1 {
		return width + 1
	}
	return width
}

// checkModel is what Check answers.
func checkModel(f api.Frame, i api.StreamInfo) api.Errno {
	if !mayHaveFrames(i) || !inBounds(f) || f.Mode < 0 || f.Mode > 3 || f.Mode != 0 && i.Channels != 2 {
		return api.ErrRecipe
	}
	if !saysSize(f.SizeCode, f.Size) || !saysRate(f.RateCode, i.Rate) || !saysWidth(f.WidthCode, i.Width) || len(f.Subs) != i.Channels {
		return api.ErrRecipe
	}
	for c, s := range f.Subs {
		if subframe.Check(s, f.Size, widthOf(f.Mode, c, i.Width)) != api.OK {
			return api.ErrRecipe
		}
	}
	return api.OK
}

// coded is the channels that a mode makes of two planes.
func coded(mode int, planes [][]int) [][]int {
	if mode == api.ModeAlone {
		return planes
	}
	l := [][]int{{}, {}}
	for i, a := range planes[0] {
		b := planes[1][i]
		half := (a + b - (a+b)&1) / 2
		pair := [][2]int{{}, {a, a - b}, {a - b, b}, {half, a - b}}[mode]
		l[0], l[1] = append(l[0], pair[0]), append(l[1], pair[1])
	}
	return l
}

// uncoded is the planes of which a mode makes two channels.
func uncoded(mode int, l [][]int) [][]int {
	if mode == api.ModeAlone {
		return l
	}
	planes := [][]int{{}, {}}
	for i, a := range l[0] {
		b := l[1][i]
		sum := 2*a + b&1
		pair := [][2]int{{}, {a, a - b}, {a + b, b}, {(sum + b) / 2, (sum - b) / 2}}[mode]
		planes[0], planes[1] = append(planes[0], pair[0]), append(planes[1], pair[1])
	}
	return planes
}

// raw is a frame's bits, part by part, so that each of them can be spoilt with sums that are right.
type raw struct {
	sync, zero, variable                    int
	sizeCode, rateCode, channels, widthCode int
	last                                    int    // the bit behind the codes
	number                                  string // its bytes
	size, rate                              string // digits of what stands behind it
	body                                    string // digits of the subframes
	fill                                    string // the digit up to a whole byte
	spoil8, spoil16                         int    // what the sums are turned by
}

// head is what stands ahead of the Crc8.
func (r raw) head() string {
	codes := digits(r.sync, 14) + digits(r.zero, 1) + digits(r.variable, 1) + digits(r.sizeCode, 4) + digits(r.rateCode, 4) +
		digits(r.channels, 4) + digits(r.widthCode, 3) + digits(r.last, 1)
	return packed(codes) + r.number + packed(r.size+r.rate)
}

// text is the whole.
func (r raw) text() string {
	s := r.head()
	s += packed(digits(sums.Crc8(s)^r.spoil8, 8))
	body := r.body
	for len(body)%8 != 0 {
		body += r.fill
	}
	s += packed(body)
	return s + packed(digits(sums.Crc16(s)^r.spoil16, 16))
}

// rawHead is the head of a frame.
func rawHead(f api.Frame, i api.StreamInfo) raw {
	r := raw{sync: 16382, sizeCode: f.SizeCode, rateCode: f.RateCode, widthCode: f.WidthCode, channels: i.Channels - 1, fill: "0"}
	if f.Variable {
		r.variable = 1
	}
	if f.Mode != 0 {
		r.channels = 7 + f.Mode
	}
	r.number, _ = bytes.Coded(f.Number)
	r.behind(f.Size, i.Rate)
	return r
}

// behind gives r what its codes ask for behind Number.
func (r *raw) behind(size, rate int) {
	r.size, r.rate = "", ""
	switch r.sizeCode {
	case 6:
		r.size = digits(size-1, 8)
	case 7:
		r.size = digits(size-1, 16)
	}
	switch r.rateCode {
	case 12:
		r.rate = digits(rate/1000, 8)
	case 13:
		r.rate = digits(rate, 16)
	case 14:
		r.rate = digits(rate/10, 16)
	}
}

// subDigits is a subframe's digits; false, if the samples do not go with it.
func subDigits(s api.Sub, width int, l []int) (string, bool) {
	w := bits.New()
	if subframe.Encode(w, s, width, l) != api.OK {
		return "", false
	}
	return digitsOf(w.Bytes())[:w.Len()], true
}

// buildModel is the frame's bits; an error, if Build tells none.
func buildModel(s sample) (raw, api.Errno) {
	if e := checkModel(s.frame, s.info); e != api.OK {
		return raw{}, e
	}
	if len(s.planes) != s.info.Channels {
		return raw{}, api.ErrRecipe
	}
	for _, l := range s.planes {
		if len(l) != s.frame.Size || slices.ContainsFunc(l, func(n int) bool { return !within(n, s.info.Width) }) {
			return raw{}, api.ErrRecipe
		}
	}
	r := rawHead(s.frame, s.info)
	for c, l := range coded(s.frame.Mode, s.planes) {
		d, ok := subDigits(s.frame.Subs[c], widthOf(s.frame.Mode, c, s.info.Width), l)
		if !ok {
			return raw{}, api.ErrRecipe
		}
		r.body += d
	}
	return r, api.OK
}

// rawOf is the frame's bits.
func rawOf(s sample) raw {
	r, e := buildModel(s)
	if e != api.OK {
		panic(fmt.Sprint("the model refuses ", short(s)))
	}
	return r
}

// textOf is the frame's bytes.
func textOf(s sample) string { return rawOf(s).text() }

// headModel is what stands in the head of s, and how many bytes it has with its Crc8 (0, if it ends, or a bit or Number is against the form); whether that Crc8 is right.
func headModel(s string) (r raw, size, rate, count int, right bool) {
	if len(s) < 5 {
		return raw{}, 0, 0, 0, false
	}
	d := digitsOf(s[:4])
	r = raw{sync: number(d[:14]), zero: number(d[14:15]), variable: number(d[15:16]), sizeCode: number(d[16:20]), rateCode: number(d[20:24]),
		channels: number(d[24:28]), widthCode: number(d[28:31]), last: number(d[31:]), fill: "0"}
	_, long, e := bytes.Uncoded(s[4:])
	if r.sync != 16382 || r.zero != 0 || r.last != 0 || e != api.OK {
		return raw{}, 0, 0, 0, false
	}
	sizeBytes, rateBytes := map[int]int{6: 1, 7: 2}[r.sizeCode], map[int]int{12: 1, 13: 2, 14: 2}[r.rateCode]
	count = 4 + long + sizeBytes + rateBytes
	if len(s) <= count {
		return raw{}, 0, 0, 0, false
	}
	r.number = s[4 : 4+long]
	r.size = digitsOf(s[4+long : 4+long+sizeBytes])
	r.rate = digitsOf(s[4+long+sizeBytes : count])
	size, rate = sizeCodes[r.sizeCode], rateCodes[r.rateCode]
	if sizeBytes > 0 {
		size = number(r.size) + 1
	}
	if rateBytes > 0 {
		rate = number(r.rate) * map[int]int{12: 1000, 13: 1, 14: 10}[r.rateCode]
	}
	return r, size, rate, count + 1, sums.Crc8(s[:count]) == int(s[count])
}

// frameModel is the frame that a head says, without its Subs.
func frameModel(r raw, size, rate int, i api.StreamInfo) (api.Frame, api.Errno) {
	n, _, _ := bytes.Uncoded(r.number)
	f := api.Frame{Variable: r.variable == 1, Number: n, Size: size, SizeCode: r.sizeCode, RateCode: r.rateCode, WidthCode: r.widthCode}
	if r.sizeCode == 0 {
		return f, api.ErrMalformed
	}
	if size > 4608 {
		return f, api.ErrUnsupported
	}
	channels := r.channels + 1
	if r.channels >= 8 {
		channels, f.Mode = 2, r.channels-7
	}
	if r.rateCode == 15 || r.channels > 10 || !mayHaveFrames(i) || !inBounds(f) || channels != i.Channels {
		return f, api.ErrMalformed
	}
	if r.rateCode != 0 && rate != i.Rate || !saysWidth(r.widthCode, i.Width) {
		return f, api.ErrMalformed
	}
	return f, api.OK
}

// parseModel is what Parse answers.
func parseModel(s string, i api.StreamInfo) ([][]int, api.Frame, int, api.Errno) {
	bad := func(e api.Errno) ([][]int, api.Frame, int, api.Errno) { return nil, api.Frame{}, 0, e }
	r, size, rate, count, right := headModel(s)
	if !right {
		return bad(api.ErrMalformed)
	}
	f, e := frameModel(r, size, rate, i)
	if e != api.OK {
		return bad(e)
	}
	x := bits.Of(s[count:])
	var channels [][]int
	for c := range i.Channels {
		l, sub, e := subframe.Decode(x, f.Size, widthOf(f.Mode, c, i.Width))
		if e != api.OK {
			return bad(e)
		}
		channels, f.Subs = append(channels, l), append(f.Subs, sub)
	}
	planes := uncoded(f.Mode, channels)
	for _, l := range planes {
		if slices.ContainsFunc(l, func(n int) bool { return !within(n, i.Width) }) {
			return bad(api.ErrMalformed)
		}
	}
	for x.At()%8 != 0 {
		if n, _ := x.Get(1); n != 0 {
			return bad(api.ErrMalformed)
		}
	}
	count += x.At() / 8
	if len(s) < count+2 || number(digitsOf(s[count:count+2])) != sums.Crc16(s[:count]) {
		return bad(api.ErrMalformed)
	}
	return planes, f, count + 2, api.OK
}

// numbers is a fixed row of numbers that look like chance (SplitMix64).
type numbers uint64

func (r *numbers) next() uint64 {
	*r += 0x9e3779b97f4a7c15
	x := uint64(*r)
	x = (x ^ x>>30) * 0xbf58476d1ce4e5b9
	x = (x ^ x>>27) * 0x94d049bb133111eb
	return x ^ x>>31
}

func (r *numbers) below(n int) int { return int(r.next() % uint64(n)) }

// signed is a number of up to so many bits, small ones as often as great ones.
func (r *numbers) signed(width int) int {
	if width == 0 {
		return 0
	}
	return int(r.next()) >> (64 - 1 - r.below(width))
}

// text is count bytes.
func (r *numbers) text(count int) string {
	s := make([]byte, count)
	for i := range s {
		s[i] = byte(r.next())
	}
	return string(s)
}

// sample is a frame of a stream and its planes.
type sample struct {
	frame  api.Frame
	info   api.StreamInfo
	planes [][]int
}

// sample makes up a small frame, or one of a size that a code says.
func (r *numbers) sample() sample {
	size := 1 + r.below(60)
	if r.below(20) == 0 {
		size = []int{192, 256, 257, 512, 576}[r.below(5)]
	}
	return r.sampleOf(1+r.below(8), size)
}

// sampleOf makes up a frame of so many channels and this size.
func (r *numbers) sampleOf(channels, size int) sample {
	s := sample{info: r.stream(channels)}
	s.frame = api.Frame{Variable: r.below(2) == 0, Size: size}
	s.frame.Number = int(r.next() >> (33 + r.below(31)))
	if s.frame.Variable {
		s.frame.Number = int(r.next() >> (28 + r.below(36)))
	}
	if channels == 2 {
		s.frame.Mode = r.below(4)
	}
	s.frame.SizeCode = r.code(16, func(code int) bool { return saysSize(code, size) })
	s.frame.RateCode = r.code(16, func(code int) bool { return saysRate(code, s.info.Rate) })
	s.frame.WidthCode = r.code(8, func(code int) bool { return saysWidth(code, s.info.Width) })
	for range channels {
		s.planes = append(s.planes, r.plane(size, s.info.Width))
	}
	for _, l := range coded(s.frame.Mode, s.planes) {
		s.frame.Subs = append(s.frame.Subs, r.sub(l))
	}
	return s
}

// stream is one that may have frames, with a rate and a width that codes say as often as others.
func (r *numbers) stream(channels int) api.StreamInfo {
	i := api.StreamInfo{Channels: channels, Width: 4 + r.below(21), Rate: 1 + r.below(700000)}
	switch r.below(4) {
	case 0:
		i.Rate = rateCodes[1+r.below(11)]
	case 1:
		i.Rate = 1000 * (1 + r.below(255))
	case 2:
		i.Rate = 10 * (1 + r.below(65535))
	}
	if r.below(2) == 0 {
		i.Width = []int{8, 12, 16, 20, 24}[r.below(5)]
	}
	return i
}

// code is one of those below count that says what is asked.
func (r *numbers) code(count int, says func(int) bool) int {
	for {
		if code := r.below(count); says(code) {
			return code
		}
	}
}

// plane is samples of this width: all the same, with wasted bits, small, or any.
func (r *numbers) plane(size, width int) []int {
	wide, wasted := width, 0
	switch r.below(4) {
	case 0:
		return slices.Repeat([]int{r.signed(width)}, size)
	case 1:
		wasted = r.below(width)
	case 2:
		wide = 1 + r.below(width)
	}
	l := make([]int, size)
	for i := range l {
		l[i] = r.signed(wide-min(wasted, wide)) * power(wasted)
		if r.below(10) == 0 {
			l[i] = -power(width - 1)
		}
	}
	return l
}

// sub is one that l goes with.
func (r *numbers) sub(l []int) api.Sub {
	wasted := 0
	for wasted < 3 && !slices.ContainsFunc(l, func(n int) bool { return n%power(wasted+1) != 0 }) {
		wasted++
	}
	s := api.Sub{Kind: 1 + r.below(3), Wasted: r.below(wasted + 1)}
	if len(slices.Compact(slices.Clone(l))) == 1 && r.below(2) == 0 {
		s.Kind = api.SubConstant
	}
	switch s.Kind {
	case api.SubFixed:
		s.Order = r.below(min(len(l), 4) + 1)
	case api.SubLpc:
		s.Order = 1 + r.below(min(len(l), 32))
		s.Precision, s.Shift = 1+r.below(8), r.below(16)
		for range s.Order {
			s.Coefs = append(s.Coefs, r.signed(s.Precision))
		}
	default:
		return s
	}
	s.Rice = r.rice(rest(s, l), len(l), s.Order)
	return s
}

// rest is what the Sub's predictor leaves over.
func rest(s api.Sub, l []int) []int {
	coefs := s.Coefs
	if s.Kind == api.SubFixed {
		coefs = [][]int{{}, {1}, {2, -1}, {3, -3, 1}, {4, -6, 4, -1}}[s.Order]
	}
	var more []int
	for i := s.Order; i < len(l); i++ {
		sum := 0
		for j, c := range coefs {
			sum += c * (l[i-1-j] >> s.Wasted)
		}
		more = append(more, l[i]>>s.Wasted-sum>>s.Shift)
	}
	return more
}

// rice is a Rice that takes l.
func (r *numbers) rice(l []int, block, order int) api.Rice {
	q := api.Rice{Method: 1}
	for q.Order < 3 && block%power(q.Order+1) == 0 && block/power(q.Order+1) >= order && r.below(3) > 0 {
		q.Order++
	}
	size := block / power(q.Order)
	for i := range power(q.Order) {
		part := l[max(i*size-order, 0) : (i+1)*size-order]
		wide := 0
		for _, n := range part {
			wide = max(wide, mathbits.Len(uint(n^n>>63)))
		}
		k, e := min(max(wide-r.below(4), 0), 30), -1
		if wide < 31 && r.below(4) == 0 {
			k, e = 0, wide+1
		}
		q.Params, q.Escapes = append(q.Params, k), append(q.Escapes, e)
	}
	if slices.Max(q.Params) <= 14 {
		q.Method = r.below(2)
	}
	return q
}

// sameFrame says whether two of them say the same.
func sameFrame(a, b api.Frame) bool {
	return a.Variable == b.Variable && a.Number == b.Number && a.Size == b.Size && a.SizeCode == b.SizeCode && a.RateCode == b.RateCode &&
		a.WidthCode == b.WidthCode && a.Mode == b.Mode && slices.EqualFunc(a.Subs, b.Subs, sameSub)
}

// sameSub says whether two of them say the same.
func sameSub(a, b api.Sub) bool {
	alike := a.Kind == b.Kind && a.Order == b.Order && a.Wasted == b.Wasted && a.Precision == b.Precision && a.Shift == b.Shift
	return alike && slices.Equal(a.Coefs, b.Coefs) && a.Rice.Method == b.Rice.Method && a.Rice.Order == b.Rice.Order &&
		slices.Equal(a.Rice.Params, b.Rice.Params) && slices.Equal(a.Rice.Escapes, b.Rice.Escapes)
}

// samePlanes says whether the samples are the same.
func samePlanes(a, b [][]int) bool { return slices.EqualFunc(a, b, slices.Equal) }

// short is a thing's beginning, for what a test says.
func short(a any) string {
	return fmt.Sprintf("%.160s", fmt.Sprint(a))
}

// stream is one with these.
func stream(channels, width, rate int) api.StreamInfo {
	return api.StreamInfo{Channels: channels, Width: width, Rate: rate}
}

// verbatim is so many Subs of samples as they are.
func verbatim(count int) []api.Sub {
	return slices.Repeat([]api.Sub{{Kind: api.SubVerbatim}}, max(count, 0))
}

// simple is a frame of verbatim samples that fits a stream of so many channels, 16 bits, 44100.
func simple(channels, size int) sample {
	s := sample{
		frame: api.Frame{Size: size, SizeCode: 7, RateCode: 9, WidthCode: 4, Subs: verbatim(channels)},
		info:  stream(channels, 16, 44100),
	}
	for c := range channels {
		l := make([]int, size)
		for i := range l {
			l[i] = (i*7919+c*104729)%65536 - 32768
		}
		s.planes = append(s.planes, l)
	}
	return s
}

// isCheck fails, unless Check answers this.
func isCheck(t *testing.T, f api.Frame, i api.StreamInfo, want api.Errno) {
	t.Helper()
	if e := frame.Check(f, i); e != want {
		t.Errorf("Check(%s, %s): error %d, not %d", short(f), short(i), e, want)
	}
}

// isBuild fails, unless Build tells these bytes.
func isBuild(t *testing.T, s sample, want string) {
	t.Helper()
	if b, e := frame.Build(s.frame, s.info, s.planes); e != api.OK || b != want {
		t.Fatalf("Build(%s): %s, error %d, not %s", short(s), short([]byte(b)), e, short([]byte(want)))
	}
}

// isNoBuild fails, unless Build answers ErrRecipe and nothing else.
func isNoBuild(t *testing.T, s sample) {
	t.Helper()
	if b, e := frame.Build(s.frame, s.info, s.planes); e != api.ErrRecipe || b != "" {
		t.Errorf("Build(%s): %s, error %d", short(s), short([]byte(b)), e)
	}
}

// isParse fails, unless Parse of the text, with whatever behind it, tells the sample and how long the text is.
func isParse(t *testing.T, text string, s sample) {
	t.Helper()
	for _, behind := range []string{"", "\x00", "\xff\xf8", "more", text} {
		l, f, n, e := frame.Parse(text+behind, s.info)
		if e != api.OK || n != len(text) || !samePlanes(l, s.planes) || !sameFrame(f, s.frame) {
			t.Fatalf("Parse(%s): %s, %s, %d, error %d; not %s, %d", short([]byte(text)), short(l), short(f), n, e, short(s), len(text))
		}
	}
}

// isNoParse fails, unless Parse answers this error and nothing else.
func isNoParse(t *testing.T, text string, i api.StreamInfo, want api.Errno) {
	t.Helper()
	l, f, n, e := frame.Parse(text, i)
	if e != want || len(l) != 0 || n != 0 || !sameFrame(f, api.Frame{}) {
		t.Errorf("Parse(%s, %s): %s, %s, %d, error %d, not %d", short([]byte(text)), short(i), short(l), short(f), n, e, want)
	}
}

// isParseAsModel fails, unless Parse answers what the chapter says; it is the error.
func isParseAsModel(t *testing.T, text string, i api.StreamInfo) api.Errno {
	t.Helper()
	l, f, n, e := frame.Parse(text, i)
	wantL, wantF, wantN, want := parseModel(text, i)
	if e != want || n != wantN || !samePlanes(l, wantL) || !sameFrame(f, wantF) {
		t.Fatalf("Parse(%s, %s): %s, %s, %d, error %d; not %s, %s, %d, %d", short([]byte(text)), short(i), short(l), short(f), n, e, short(wantL), short(wantF), wantN, want)
	}
	return e
}
