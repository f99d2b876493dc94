package flac_test

import (
	"math"
	"slices"
	"testing"

	"lacquer/api"
	"lacquer/flac"
	"lacquer/sums"
)

// Promise 14.1.

func TestExamplesOfFrames(t *testing.T) {
	i := stream(1, 8, 8000)
	isFrames(t, "Number 1 at first", quietText(i, quiet(i, false, 1, 16)), i, api.ErrMalformed)
	isFrames(t, "Number 1 at first, Variable", quietText(i, quiet(i, true, 1, 16)), i, api.ErrMalformed)
	s := quietText(i, quietRow(i, false, 16, 16)...)
	isFrames(t, "two frames", s, i, api.OK)
	for b := range 256 {
		isFrames(t, "a byte behind the last frame", s+string([]byte{byte(b)}), i, api.ErrMalformed)
	}
	planes, l, e := flac.Frames(s, i)
	if e != api.OK || len(l) != 2 || !samePlanes(planes, silence(1, 32)) || l[1].Number != 1 {
		t.Errorf("%v %v %d", planes, l, e)
	}
}

// A stream without frames has a plane for each channel all the same.
func TestNoFrames(t *testing.T) {
	for channels := -1; channels <= 9; channels++ {
		i := stream(channels, 16, 44100)
		isFrames(t, "no frames", "", i, api.OK)
		planes, l, _ := flac.Frames("", i)
		if want := max(channels, 0) % 9; len(planes) != want || len(l) != 0 {
			t.Errorf("%d channels have %d planes", channels, len(planes))
		}
	}
}

func TestFramesOfEachKind(t *testing.T) {
	r := numbers(1411)
	seen := map[int]int{}
	for n := range 3000 {
		p, f := r.fileOf(1+n%8, 4+n%21, []int{1, 8000, 44100, 65535, 65536, 96000, 655350}[n%7])
		s, ok := layModel(p, f)
		_, ahead := layModel(p, api.Flac{Blocks: f.Blocks})
		if !ok || !ahead {
			t.Fatalf("%s %s is not laid", short(p), short(f))
		}
		s = s[4+len(metadata(f.Blocks...)):]
		planes, l, e := flac.Frames(s, infoOf(f.Blocks))
		if e != api.OK || !samePlanes(planes, p.Planes) || !slices.EqualFunc(l, f.Frames, sameFrame) {
			t.Fatalf("%s, %s, %d: not %s, %s", short(planes), short(l), e, short(p), short(f))
		}
		reads(t, s, infoOf(f.Blocks))
		seen[len(l)]++
	}
	for n := range 6 {
		if seen[n] < 100 {
			t.Errorf("%d frames were there %d times alone", n, seen[n])
		}
	}
}

// Number is told by how many frames, or samples, stand ahead: no other one will do, at no place.
func TestNumbers(t *testing.T) {
	for _, channels := range []int{1, 2, 8} {
		i := stream(channels, 16, 44100)
		for _, variable := range []bool{false, true} {
			right := quietRow(i, variable, 20, 20, 20, 20, 7)
			isFrames(t, "right", quietText(i, right...), i, api.OK)
			for k := range right {
				for _, n := range []int{0, 1, 2, 3, 4, 19, 20, 21, 39, 40, 41, 59, 60, 61, 79, 80, 81, 87, 1<<31 - 1} {
					l := slices.Clone(right)
					l[k].Number = n
					want := api.ErrMalformed
					if n == right[k].Number {
						want = api.OK
					}
					isFrames(t, "a Number", quietText(i, l...), i, want)
				}
				isFrames(t, "a frame that lacks", quietText(i, slices.Delete(slices.Clone(right), k, k+1)...), i, []api.Errno{api.OK, api.ErrMalformed}[btoi(k < 4)])
				isFrames(t, "a frame twice", quietText(i, slices.Insert(slices.Clone(right), k, right[k])...), i, api.ErrMalformed)
			}
		}
		// Of a single sample each both ways of counting have the same numbers.
		i.MinBlock = 1
		for _, variable := range []bool{false, true} {
			isFrames(t, "single samples", quietText(i, quietRow(i, variable, 1, 1, 1, 1)...), i, api.OK)
		}
	}
}

func btoi(b bool) int {
	if b {
		return 1
	}
	return 0
}

// All frames are Variable, or none is.
func TestVariableOrNot(t *testing.T) {
	i := stream(1, 16, 44100)
	i.MinBlock = 1
	for _, size := range []int{1, 16, 20} {
		for _, variable := range []bool{false, true} {
			right := quietRow(i, variable, size, size, size, size)
			for k := range right {
				for _, n := range []int{k, k * size} {
					l := slices.Clone(right)
					l[k] = quiet(i, !variable, n, size)
					isFrames(t, "another kind", quietText(i, l...), i, api.ErrMalformed)
				}
			}
			isFrames(t, "one kind", quietText(i, right...), i, api.OK)
			isFrames(t, "one kind", quietText(i, right[:1]...), i, api.OK)
		}
	}
}

func TestSizesAndMaxBlock(t *testing.T) {
	i := stream(2, 16, 44100)
	i.MaxBlock = 30
	for _, variable := range []bool{false, true} {
		for size := 28; size <= 33; size++ {
			want := []api.Errno{api.OK, api.ErrMalformed}[btoi(size > 30)]
			isFrames(t, "alone", quietText(i, quietRow(i, variable, size)...), i, want)
			isFrames(t, "all", quietText(i, quietRow(i, variable, size, size, size)...), i, want)
		}
		isFrames(t, "the last one", quietText(i, quietRow(i, variable, 30, 30, 31)...), i, api.ErrMalformed)
		isFrames(t, "one in the middle", quietText(i, quietRow(i, variable, 30, 31, 30)...), i, api.ErrMalformed)
	}
	i.MaxBlock = 4608
	isFrames(t, "the greatest", quietText(i, quietRow(i, false, 4608, 4608, 4607)...), i, api.OK)
	for _, most := range []int{0, -1, 15, math.MinInt} {
		i.MaxBlock = most
		isFrames(t, "no room", quietText(i, quietRow(i, false, 16)...), i, api.ErrMalformed)
		isFrames(t, "nothing", "", i, api.OK)
	}
	i.MaxBlock = math.MaxInt
	isFrames(t, "all room", quietText(i, quietRow(i, false, 16)...), i, api.OK)
}

// Only the last frame may be shorter than MinBlock.
func TestSizesAndMinBlock(t *testing.T) {
	i := stream(2, 16, 44100)
	i.MinBlock = 30
	for _, variable := range []bool{false, true} {
		for _, size := range []int{1, 15, 16, 28, 29, 30, 31} {
			want := []api.Errno{api.OK, api.ErrMalformed}[btoi(size < 30)]
			isFrames(t, "alone", quietText(i, quietRow(i, variable, size)...), i, api.OK)
			isFrames(t, "the last one", quietText(i, quietRow(i, variable, 32, 32, size)...), i, api.OK)
			isFrames(t, "the one ahead", quietText(i, quietRow(i, variable, size, size)...), i, want)
			isFrames(t, "the one ahead of one", quietText(i, quietRow(i, variable, size, 1)...), i, want)
		}
		isFrames(t, "the first one", quietText(i, quietRow(i, variable, 29, 29, 29)...), i, api.ErrMalformed)
	}
	isFrames(t, "in the middle", quietText(i, quietRow(i, true, 40, 29, 40)...), i, api.ErrMalformed)
	isFrames(t, "in the middle", quietText(i, quietRow(i, true, 40, 30, 40)...), i, api.OK)
	for _, least := range []int{0, -1, math.MinInt} {
		i.MinBlock = least
		isFrames(t, "no bound", quietText(i, quietRow(i, true, 1, 1, 2, 1)...), i, api.OK)
	}
	i.MinBlock = math.MaxInt
	isFrames(t, "no room", quietText(i, quietRow(i, true, 40, 40)...), i, api.ErrMalformed)
	isFrames(t, "no room but for the last", quietText(i, quietRow(i, true, 40)...), i, api.OK)
}

// Frames that are not Variable have all the same size, but the last one, which may be shorter.
func TestSizesThatDiffer(t *testing.T) {
	i := stream(1, 12, 8000)
	for _, c := range []struct {
		sizes           []int
		fixed, variable api.Errno
	}{
		{[]int{20, 20, 20}, api.OK, api.OK},
		{[]int{20, 20, 19}, api.OK, api.OK},
		{[]int{20, 20, 1}, api.OK, api.OK},
		{[]int{20, 16}, api.OK, api.OK},
		{[]int{20, 20, 21}, api.ErrMalformed, api.OK},
		{[]int{20, 21}, api.ErrMalformed, api.OK},
		{[]int{20, 19, 20}, api.ErrMalformed, api.OK},
		{[]int{20, 19, 19}, api.ErrMalformed, api.OK},
		{[]int{20, 19, 18}, api.ErrMalformed, api.OK},
		{[]int{20, 21, 20}, api.ErrMalformed, api.OK},
		{[]int{20, 21, 21}, api.ErrMalformed, api.OK},
		{[]int{19, 20, 20}, api.ErrMalformed, api.OK},
		{[]int{20, 20, 20, 19, 20}, api.ErrMalformed, api.OK},
		{[]int{20, 20, 20, 19, 1}, api.ErrMalformed, api.OK},
		{[]int{16, 4608, 17, 3}, api.ErrMalformed, api.OK},
		{[]int{20, 15, 20}, api.ErrMalformed, api.ErrMalformed},
		{[]int{5}, api.OK, api.OK},
	} {
		isFrames(t, "fixed", quietText(i, quietRow(i, false, c.sizes...)...), i, c.fixed)
		isFrames(t, "variable", quietText(i, quietRow(i, true, c.sizes...)...), i, c.variable)
	}
}

// many is 2^20 samples in frames of 4096.
func many(i api.StreamInfo, variable bool, more ...int) []api.Frame {
	return quietRow(i, variable, append(slices.Repeat([]int{4096}, 256), more...)...)
}

func TestMaxSamples(t *testing.T) {
	for _, channels := range []int{1, 2} {
		i := stream(channels, 8, 44100)
		for _, variable := range []bool{false, true} {
			isFrames(t, "as many as can be", quietText(i, many(i, variable)...), i, api.OK)
			for _, size := range []int{1, 2, 4096} {
				isFrames(t, "too many", quietText(i, many(i, variable, size)...), i, api.ErrLarge)
			}
		}
	}
	i := stream(1, 8, 44100)
	uneven := slices.Repeat([]int{4608}, 227)
	isFrames(t, "as many, in frames of 4608", quietText(i, quietRow(i, false, append(uneven, 2560)...)...), i, api.OK)
	isFrames(t, "too many, in frames of 4608", quietText(i, quietRow(i, false, append(uneven, 2561)...)...), i, api.ErrLarge)

	full := quietText(i, many(i, false)...)
	over := quietText(i, many(i, false, 1)...)
	longer := quietText(i, many(i, false, 4097)...)
	other := quietText(i, quiet(i, true, 1<<20, 16))
	wrong := quietText(i, quiet(i, false, 257, 16))
	isFrames(t, "one too many, and behind it what is wrong", over+"x", i, api.ErrLarge)
	isFrames(t, "one too many, and behind it another kind", over+other, i, api.ErrLarge)
	isFrames(t, "one too many, of another kind", full+other, i, api.ErrMalformed)
	isFrames(t, "one too many, of a wrong Number", full+wrong, i, api.ErrMalformed)
	isFrames(t, "one too many, which is longer", longer, i, api.ErrMalformed)
	isFrames(t, "one too many, cut off", over[:len(over)-1], i, api.ErrMalformed)
	isFrames(t, "one too many, of an unsupported size", full+tooLong(256), i, api.ErrUnsupported)
	isFrames(t, "a fault ahead of too many", wrong+over, i, api.ErrMalformed)
}

// tooLong is the head of a frame of 8192 samples of one channel, whose Number is below 128, or this.
func tooLong(number int) string {
	s := "\xff\xf8\xd0\x00"
	if number < 128 {
		s += string([]byte{byte(number)})
	} else {
		s += string([]byte{0xc0 | byte(number>>6), 0x80 | byte(number&63)})
	}
	return s + string([]byte{byte(sums.Crc8(s))})
}

// frameFaults are frames as they cannot stand behind two of 20 samples, with their errors.
func frameFaults(i api.StreamInfo) map[string]api.Errno {
	s := quietText(i, quiet(i, false, 2, 20))
	return map[string]api.Errno{
		quietText(i, quiet(i, false, 1, 20)): api.ErrMalformed,
		quietText(i, quiet(i, true, 40, 20)): api.ErrMalformed,
		quietText(i, quiet(i, false, 2, 21)): api.ErrMalformed,
		s[:len(s)-1]:                         api.ErrMalformed,
		swapped(s, len(s)-1, "?"):            api.ErrMalformed,
		"\x00":                               api.ErrMalformed,
		tooLong(2):                           api.ErrUnsupported,
		tooLong(77):                          api.ErrUnsupported,
	}
}

// Of two faults the one that is seen first is told, whatever stands behind.
func TestTwoFaultsInFrames(t *testing.T) {
	i := stream(1, 8, 8000)
	ahead := quietText(i, quietRow(i, false, 20, 20)...)
	for a, want := range frameFaults(i) {
		isFrames(t, "alone", ahead+a, i, want)
		for b := range frameFaults(i) {
			isFrames(t, "one behind the other", ahead+a+b, i, want)
		}
	}
	isFrames(t, "too long a frame, of a wrong Number, at first", tooLong(9), i, api.ErrUnsupported)
	isFrames(t, "too short a one ahead of too long a one", quietText(i, quietRow(i, false, 15)...)+tooLong(1), i, api.ErrUnsupported)
}

// A row of frames that ends anywhere else than behind a frame.
func TestFramesCutOff(t *testing.T) {
	i := stream(2, 16, 44100)
	s := ""
	ends := map[int]bool{0: true}
	for _, f := range quietRow(i, false, 20, 20, 20, 9) {
		s += quietText(i, f)
		ends[len(s)] = true
	}
	for n := range len(s) + 1 {
		want := []api.Errno{api.ErrMalformed, api.OK}[btoi(ends[n])]
		isFrames(t, "cut off", s[:n], i, want)
	}
}

// A frame of which a byte is another one is never taken.
func TestBytesOfFramesChanged(t *testing.T) {
	r := numbers(1412)
	for range 20 {
		p, f := r.fileOf(2, 16, 44100)
		i := infoOf(f.Blocks)
		s, _ := layModel(p, f)
		s = s[4+len(metadata(f.Blocks...)):]
		for at := range len(s) {
			turned := string([]byte{s[at] ^ byte(1+r.below(255))})
			isFrames(t, "a byte changed", swapped(s, at, turned), i, api.ErrMalformed)
		}
	}
}

// Streams that may not have frames, and such as have others.
func TestFramesOfOtherStreams(t *testing.T) {
	right := stream(2, 16, 44100)
	s := quietText(right, quietRow(right, false, 20, 20)...)
	i := right
	i.Rate, i.Samples, i.Digest = 8000, 7, "whatever"
	isFrames(t, "another rate, of which the frames say nothing", s, i, api.OK)
	for _, n := range []int{math.MinInt, -1, 0, 1, 3, 8, 9, 1 << 40, math.MaxInt} {
		i := right
		i.Channels = n
		isFrames(t, "other channels", s, i, api.ErrMalformed)
		isFrames(t, "no frames", "", i, api.OK)
	}
	for _, n := range []int{math.MinInt, -1, 0, 3, 25, 32, math.MaxInt} {
		i := right
		i.Width = n
		isFrames(t, "a width", s, i, api.ErrMalformed)
		isFrames(t, "no frames", "", i, api.OK)
	}
	for _, n := range []int{math.MinInt, -1, 0} {
		i := right
		i.Rate = n
		isFrames(t, "a rate", s, i, api.ErrMalformed)
		isFrames(t, "no frames", "", i, api.OK)
	}
	isFrames(t, "nothing said", s, api.StreamInfo{}, api.ErrMalformed)
}

// Rows of frames with any sizes, kinds and numbers.
func TestAnyRows(t *testing.T) {
	r := numbers(1413)
	seen := map[api.Errno]int{}
	i := stream(1, 8, 8000)
	i.MinBlock, i.MaxBlock = 17, 19
	for range 20000 {
		variable := r.below(2) == 0
		sizes := slices.Repeat([]int{17 + r.below(3)}, 1+r.below(4))
		for range r.below(3) {
			sizes[r.below(len(sizes))] = 16 + r.below(5)
		}
		l := quietRow(i, variable, sizes...)
		if r.below(4) == 0 {
			l[r.below(len(l))].Number += r.below(2)
		}
		if r.below(8) == 0 {
			l[r.below(len(l))].Variable = !variable
		}
		seen[reads(t, quietText(i, l...), i)]++
	}
	if seen[api.OK] < 3000 || seen[api.ErrMalformed] < 3000 {
		t.Errorf("errors were seen so often: %v", seen)
	}
}
