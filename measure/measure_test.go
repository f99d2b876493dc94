package measure_test

import (
	"fmt"
	"slices"
	"testing"

	"lacquer/api"
	"lacquer/frame"
	"lacquer/measure"
)

// The tests hold the package against package frame: what is measured is what it lays.

// stream is one whose frames may be of this.
func stream(channels, width, rate int) api.StreamInfo {
	return api.StreamInfo{Rate: rate, Channels: channels, Width: width}
}

// measures fails, unless Frame tells how many bytes frame.Build lays, or -1 where it lays none; it tells whether there are any.
func measures(t *testing.T, f api.Frame, i api.StreamInfo, planes [][]int) bool {
	t.Helper()
	s, e := frame.Build(f, i, planes)
	want := len(s)
	if e != api.OK {
		want = -1
	}
	if n := measure.Frame(f, i.Width, planes); n != want {
		t.Fatalf("Frame(%s, %d, %s): %d, not %d", short(f), i.Width, short(planes), n, want)
	}
	return e == api.OK
}

func short(a any) string {
	return fmt.Sprintf("%.300s", fmt.Sprintf("%+v", a))
}

// coded is a Sub of Rice codes with these parameters, of one with method 1.
func coded(order int, params ...int) api.Sub {
	power := 0
	for 1<<power < len(params) {
		power++
	}
	r := api.Rice{Method: 1, Order: power, Params: params, Escapes: slices.Repeat([]int{-1}, len(params))}
	return api.Sub{Kind: api.SubFixed, Order: order, Rice: r}
}

// escaped is one of a single partition of so many bits a residual.
func escaped(bits int) api.Sub {
	s := coded(0, 0)
	s.Rice.Escapes[0] = bits
	return s
}

// of is a frame of one channel.
func of(s api.Sub, size int) api.Frame {
	return api.Frame{Size: size, SizeCode: 7, Subs: []api.Sub{s}}
}

func TestAnyFrames(t *testing.T) {
	r := numbers(1)
	for n := range 20000 {
		i := stream(1+n%8, 4+r.below(21), 1+r.below(655350))
		size := 1 + r.below(60)
		planes := make([][]int, i.Channels)
		for c := range planes {
			planes[c] = r.plane(size, i.Width)
		}
		if f := r.frame(i, r.below(2) == 0, int(r.next()%(1<<(1+r.below(31)))), planes); !measures(t, f, i, planes) {
			t.Fatalf("%s of %s is not laid", short(f), short(planes))
		}
	}
}

// A sample that is another one: the frame may be longer, or go with its samples no more.
func TestFramesOfOtherSamples(t *testing.T) {
	r := numbers(2)
	laid, refused := 0, 0
	for n := range 20000 {
		i := stream(1+n%3, 4+r.below(21), 44100)
		size := 1 + r.below(60)
		planes := make([][]int, i.Channels)
		for c := range planes {
			planes[c] = r.plane(size, i.Width)
		}
		f := r.frame(i, false, 0, planes)
		planes[r.below(len(planes))][r.below(size)] = r.signed(i.Width)
		if measures(t, f, i, planes) {
			laid++
		} else {
			refused++
		}
	}
	if laid < 3000 || refused < 3000 {
		t.Errorf("%d were laid, %d refused", laid, refused)
	}
}

// Each number of bytes that Number may have.
func TestNumbers(t *testing.T) {
	i := stream(1, 8, 8000)
	f := of(api.Sub{Kind: api.SubConstant}, 16)
	f.Variable = true
	for bits := range 37 {
		for _, n := range []int{1<<bits - 2, 1<<bits - 1, 1 << bits} {
			f.Number = n
			if n >= 0 && n < 1<<36 && !measures(t, f, i, [][]int{make([]int, 16)}) {
				t.Fatalf("Number %d", n)
			}
		}
	}
}

// Each code of a size, of a rate and of a width.
func TestCodes(t *testing.T) {
	laid := 0
	for _, size := range []int{16, 192, 256, 576, 1024, 1152, 2304, 4096, 4608} {
		for _, rate := range []int{8000, 16000, 22050, 24000, 32000, 44100, 48000, 88200, 96000, 176400, 192000} {
			for code := range 16 * 16 * 8 {
				i := stream(1, 4*(2+code%5), rate)
				f := of(api.Sub{Kind: api.SubConstant}, size)
				f.SizeCode, f.RateCode, f.WidthCode = code/16%16, code%16, code/256
				if frame.Check(f, i) == api.OK && measures(t, f, i, [][]int{make([]int, size)}) {
					laid++
				}
			}
		}
	}
	if laid < 1000 {
		t.Errorf("%d were laid alone", laid)
	}
}

// Two channels in each mode, as loud as can be.
func TestModes(t *testing.T) {
	for width := 4; width <= 24; width++ {
		low, high := -1<<(width-1), 1<<(width-1)-1
		for mode := range 4 {
			for _, s := range []api.Sub{{Kind: api.SubVerbatim}, coded(0, 12), coded(1, 12), escaped(width + 1), escaped(width), {Kind: api.SubConstant}} {
				f := of(s, 4)
				f.Mode, f.Subs = mode, []api.Sub{s, s}
				i := stream(2, width, 44100)
				measures(t, f, i, [][]int{{low, high, low, 0}, {high, low, low, 1}})
				measures(t, f, i, [][]int{{low, low, low, low}, {high, high, high, high}})
			}
		}
	}
}

// Wasted bits that are, and one more.
func TestWasted(t *testing.T) {
	i := stream(1, 12, 44100)
	for wasted := range 12 {
		for _, s := range []api.Sub{{Kind: api.SubConstant}, {Kind: api.SubVerbatim}, coded(2, 3)} {
			s.Wasted = wasted
			for _, l := range [][]int{{0, 0, 0, 0}, {64, 64, 64, 64}, {64, -128, 0, 192}} {
				measures(t, of(s, 4), i, [][]int{l})
			}
		}
	}
}

// Partitions: the first one lacks the samples that the predictor begins with.
func TestPartitions(t *testing.T) {
	r := numbers(3)
	i := stream(1, 16, 44100)
	l := r.plane(32, 16)
	for order := range 5 {
		for power := range 4 {
			params := make([]int, 1<<power)
			for k := range params {
				params[k] = 3 + k%28
			}
			for method := range 2 {
				s := coded(order, params...)
				s.Rice.Method = method
				if !measures(t, of(s, 32), i, [][]int{l}) {
					t.Fatalf("%s is not laid", short(s))
				}
			}
		}
	}
}

// Of 2^24 bits 0 there is a code, of one more there is none.
func TestBoundsOfCodes(t *testing.T) {
	i := stream(1, 24, 44100)
	for _, l := range [][]int{{1<<23 - 1}, {-1 << 23}, {-1<<23 + 1}} {
		if !measures(t, of(coded(0, 0), 1), i, [][]int{l}) {
			t.Fatalf("%d is not laid", l)
		}
	}
	laid := 0
	for _, l := range [][]int{{0, -1 << 23}, {1, -1 << 23}, {-1, -1 << 23}, {-1, 1<<23 - 1}, {0, 1<<23 - 1}, {-2, 1<<23 - 1}, {1, 1<<23 - 1}} {
		for k := range 2 {
			if measures(t, of(coded(1, k), 2), i, [][]int{l}) {
				laid++
			}
		}
	}
	// Two of the seven have a bit 0 too many, and with the parameter 1 none has.
	if laid != 5+7 {
		t.Errorf("%d were laid", laid)
	}
}

// The least and the greatest number of each escape, and those beyond.
func TestBoundsOfEscapes(t *testing.T) {
	i := stream(1, 24, 44100)
	for bits := range 25 {
		half := 1 << bits >> 1
		for _, n := range []int{0, 1, -1, half - 1, half, half + 1, -half, -half - 1} {
			if n < -1<<23 || n >= 1<<23 {
				continue
			}
			want := n == 0 || bits > 0 && n >= -half && n < half
			if measures(t, of(escaped(bits), 3), i, [][]int{{0, n, 0}}) != want {
				t.Fatalf("%d in %d bits", n, bits)
			}
		}
	}
}

// Codes that fill far more than there is memory are measured all the same: each sample has 2^24 bits 0 here, or one fewer, and the bit behind them.
func TestFramesThatNobodyLays(t *testing.T) {
	l := slices.Repeat([]int{-1 << 23, 1<<23 - 1}, 2304)
	s := coded(0, 0)
	for channels := 1; channels <= 8; channels++ {
		f := of(s, 4608)
		f.Subs = slices.Repeat([]api.Sub{s}, channels)
		bits := 0
		for range channels {
			bits += 8 + 6 + 5
			for _, n := range l {
				bits += 1 + max(2*n, -2*n-1)
			}
		}
		want := 4 + 1 + 2 + 1 + (bits+7)/8 + 2
		if n := measure.Frame(f, 24, slices.Repeat([][]int{l}, channels)); n != want {
			t.Errorf("%d channels: %d, not %d", channels, n, want)
		}
	}
	f := of(s, 4608)
	f.Subs = slices.Repeat([]api.Sub{s}, 8)
	f.Subs[7].Kind, f.Subs[7].Rice = api.SubConstant, api.Rice{}
	if n := measure.Frame(f, 24, slices.Repeat([][]int{l}, 8)); n != -1 {
		t.Errorf("%d", n)
	}
}

// What is handed in is left as it was.
func TestWhatIsHandedInIsLeft(t *testing.T) {
	r := numbers(4)
	for range 2000 {
		i := stream(2, 16, 44100)
		planes := [][]int{r.plane(24, 16), r.plane(24, 16)}
		f := r.frame(i, false, 0, planes)
		was := short(planes) + short(f)
		measure.Frame(f, 16, planes)
		if now := short(planes) + short(f); now != was {
			t.Fatalf("%s became %s", was, now)
		}
	}
}
