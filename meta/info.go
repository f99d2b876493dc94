package meta

import (
	"strings"

	"lacquer/api"
	"lacquer/bits"
)

// widths is how many bits the numbers of STREAMINFO have, in their order.
var widths = [8]int{16, 16, 24, 24, 20, 3, 5, 36}

// How many bytes they have together, and STREAMINFO with its Digest.
const (
	numbersSize = 18
	digestSize  = 16
	infoSize    = numbersSize + digestSize
)

// What a stream's samples may have in bits.
const (
	minWidth = 4
	maxWidth = 24
)

// Info is what the STREAMINFO s says.
func Info(s string) (api.StreamInfo, api.Errno) {
	if len(s) != infoSize {
		return api.StreamInfo{}, api.ErrMalformed
	}
	i := infoIn(s)
	if e := fault(i); e != api.OK {
		return api.StreamInfo{}, e
	}
	return i, api.OK
}

// LayInfo is the STREAMINFO that says i.
func LayInfo(i api.StreamInfo) (string, api.Errno) {
	numbers, ok := layNumbers(i)
	if !ok || len(i.Digest) != digestSize || fault(i) != api.OK {
		return "", api.ErrRecipe
	}
	return numbers + i.Digest, api.OK
}

// infoIn is what s, of a STREAMINFO's length, says, be it right or not.
func infoIn(s string) api.StreamInfo {
	var n [len(widths)]int
	x := bits.Of(s)
	for k, width := range widths {
		v, _ := x.Get(width)
		n[k] = int(v)
	}
	return api.StreamInfo{
		MinBlock: n[0],
		MaxBlock: n[1],
		MinFrame: n[2],
		MaxFrame: n[3],
		Rate:     n[4],
		Channels: n[5] + 1,
		Width:    n[6] + 1,
		Samples:  n[7],
		Digest:   strings.Clone(s[numbersSize:]),
	}
}

// layNumbers is the bytes of i's numbers; false, if one is not within its bits. One below 0 is, as bits, too great for them.
func layNumbers(i api.StreamInfo) (string, bool) {
	n := [len(widths)]int{i.MinBlock, i.MaxBlock, i.MinFrame, i.MaxFrame, i.Rate, i.Channels - 1, i.Width - 1, i.Samples}
	w := bits.New()
	for k, width := range widths {
		if w.Put(uint64(n[k]), width) != api.OK {
			return "", false
		}
	}
	return w.Bytes(), true
}

// fault is what speaks against a stream of which STREAMINFO says i.
func fault(i api.StreamInfo) api.Errno {
	switch {
	case i.MinBlock < api.MinBlock, i.MinBlock > i.MaxBlock, i.Rate == 0:
		return api.ErrMalformed
	case i.Width < minWidth, i.Width > maxWidth, i.MaxBlock > api.MaxBlock, i.Rate > api.MaxRate:
		return api.ErrUnsupported
	case i.Samples > api.MaxSamples:
		return api.ErrLarge
	}
	return api.OK
}
