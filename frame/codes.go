package frame

import "lacquer/api"

// The codes that say no number by themselves: it is the stream's, or stands behind Number.
const (
	ofStream      = 0
	sizeInOneByte = 6
	sizeInTwo     = 7
	rateThousands = 12
	rateOnes      = 13
	rateTens      = 14
)

// The numbers that the other codes say; 0: none.
var (
	sizes  = [16]int{0, 192, 576, 1152, 2304, 4608, 0, 0, 256, 512, 1024, 2048, 4096, 8192, 16384, 32768}
	rates  = [16]int{0, 88200, 176400, 192000, 8000, 16000, 22050, 24000, 32000, 44100, 48000, 96000, 0, 0, 0, 0}
	widths = [8]int{0, 8, 12, 0, 16, 20, 24, 0}
)

// firstOfModes is the code of channels that stands for ModeLeft; behind it stand those of the other modes.
const firstOfModes = 8

// sizeBytes is in how many bytes the size less 1 stands behind Number.
func sizeBytes(code int) int {
	switch code {
	case sizeInOneByte:
		return 1
	case sizeInTwo:
		return 2
	}
	return 0
}

// rateBytes is in how many bytes the rate stands behind Number.
func rateBytes(code int) int {
	switch code {
	case rateThousands:
		return 1
	case rateOnes, rateTens:
		return 2
	}
	return 0
}

// rateUnit is what the rate behind Number is counted in.
func rateUnit(code int) int {
	switch code {
	case rateThousands:
		return 1000
	case rateTens:
		return 10
	}
	return 1
}

// sizeSaid is the size that a code says, with the number that stands behind Number, if one does; 0: none.
func sizeSaid(code, behind int) int {
	if sizeBytes(code) > 0 {
		return behind + 1
	}
	return sizes[code]
}

// rateSaid is likewise the rate that a code says in a stream with this rate.
func rateSaid(code, behind, stream int) int {
	if code == ofStream {
		return stream
	}
	if rateBytes(code) > 0 {
		return behind * rateUnit(code)
	}
	return rates[code]
}

// widthSaid is the width that a code says in a stream with this width; 0: none.
func widthSaid(code, stream int) int {
	if code == ofStream {
		return stream
	}
	return widths[code]
}

// channelsSaid is how many channels a code says, and in which mode; beyond those of the modes it is none of them.
func channelsSaid(code int) (channels, mode int) {
	if code < firstOfModes {
		return code + 1, api.ModeAlone
	}
	return 2, code - firstOfModes + api.ModeLeft
}

// channelsCode is the code that says so many channels in this mode.
func channelsCode(channels, mode int) int {
	if mode == api.ModeAlone {
		return channels - 1
	}
	return firstOfModes + mode - api.ModeLeft
}

// areSaid says whether f's codes say its size, and the stream's rate and width.
func areSaid(f api.Frame, info api.StreamInfo) bool {
	return saysSize(f.SizeCode, f.Size) && saysRate(f.RateCode, info.Rate) && saysWidth(f.WidthCode, info.Width)
}

// saysSize says whether there is such a code, and it can say this size.
func saysSize(code, size int) bool {
	return isIn(code, len(sizes)) && holds(sizeBytes(code), size-1) && sizeSaid(code, size-1) == size
}

// saysRate says likewise whether a code can say the stream's rate.
func saysRate(code, rate int) bool {
	behind := rate / rateUnit(code)
	return isIn(code, len(rates)) && holds(rateBytes(code), behind) && rateSaid(code, behind, rate) == rate
}

// saysWidth says likewise whether a code can say the stream's width.
func saysWidth(code, width int) bool {
	return isIn(code, len(widths)) && widthSaid(code, width) == width
}

// isIn says whether a table of so many has a place for the code.
func isIn(code, count int) bool { return code >= 0 && code < count }

// holds says whether so many bytes hold n; where there are none, nothing is to be held.
func holds(bytes, n int) bool {
	return bytes == 0 || n < 1<<(8*bytes)
}
