package aiff_test

import (
	"strings"
	"testing"

	"lacquer/api"
)

// Promise 7.1: of several errors the first of the chapter's order is told.

// sketch is a file part by part, be they right or not.
type sketch struct {
	outer, form, number    string
	channels, count, width int
	rate                   string
	compression            string
	textLength             int
	offset                 int
	samples                string
	comms, ssnds           int
	isShort                bool // SSND has 7 bytes
	ahead, behind          string
}

func rightSketch() sketch {
	return sketch{
		outer: "FORM", form: "AIFC",
		channels: 2, count: 1, width: 16, rate: rateBytes(44100),
		compression: "NONE", textLength: 3,
		samples: "\x00\x01\x00\x02",
		comms:   1, ssnds: 1,
	}
}

func (x sketch) comm() string {
	s := num(x.channels, 2) + num(x.count, 4) + num(x.width, 2) + x.rate + x.compression + num(x.textLength, 1) + "txt"
	return "COMM" + num(len(s), 4) + s
}

func (x sketch) ssnd() string {
	s := num(x.offset, 4) + "\x00\x00\x00\x00" + x.samples
	if x.isShort {
		return "SSND\x00\x00\x00\x07" + s[:7] + "\x00"
	}
	return "SSND" + num(len(s), 4) + s
}

func (x sketch) text() string {
	s := x.ahead + strings.Repeat(x.comm(), x.comms) + strings.Repeat(x.ssnd(), x.ssnds) + x.behind
	number := x.number
	if number == "" {
		number = num(len(s)+4, 4)
	}
	return x.outer + number + x.form + s
}

// fault is one thing that is wrong; step is where the chapter names it, so that of two the lower is told.
type fault struct {
	what string
	step int
	want api.Errno
	do   func(x *sketch)
}

func faults() []fault {
	return []fault{
		{"no FORM", 1, api.ErrUnsupported, func(x *sketch) { x.outer = "RIFF" }},
		{"another form", 1, api.ErrUnsupported, func(x *sketch) { x.form = "8SVX" }},
		{"the number", 3, api.ErrMalformed, func(x *sketch) { x.number = "\x00\x00\x00\x01" }},
		{"too many chunks", 4, api.ErrLarge, func(x *sketch) { x.ahead = strings.Repeat("more\x00\x00\x00\x00", api.MaxChunks+1) }},
		{"a byte behind the chunks", 4, api.ErrMalformed, func(x *sketch) { x.behind = "x" }},
		{"no COMM", 5, api.ErrMalformed, func(x *sketch) { x.comms = 0 }},
		{"a second COMM", 5, api.ErrMalformed, func(x *sketch) { x.comms = 2 }},
		{"a second SSND", 5, api.ErrMalformed, func(x *sketch) { x.ssnds = 2 }},
		{"COMM's length", 6, api.ErrMalformed, func(x *sketch) { x.textLength = 4 }},
		{"the compression", 7, api.ErrUnsupported, func(x *sketch) { x.compression = "fl32" }},
		{"the rate", 8, api.ErrUnsupported, func(x *sketch) { x.rate = strings.Repeat("\x00", 10) }},
		{"a rate past the limit", 8, api.ErrUnsupported, func(x *sketch) { x.rate = rateBytes(api.MaxRate + 1) }},
		{"no channels", 9, api.ErrMalformed, func(x *sketch) { x.channels = 0 }},
		{"9 channels", 10, api.ErrUnsupported, func(x *sketch) { x.channels = 9 }},
		{"the width", 10, api.ErrUnsupported, func(x *sketch) { x.width = 12 }},
		{"too many samples", 11, api.ErrLarge, func(x *sketch) { x.count = api.MaxSamples + 1 }},
		{"SSND's length", 12, api.ErrMalformed, func(x *sketch) { x.isShort = true }},
		{"the offset", 13, api.ErrMalformed, func(x *sketch) { x.offset = 5 }},
		{"samples that lack", 14, api.ErrMalformed, func(x *sketch) { x.samples = "\x00\x01" }},
		{"samples too many", 14, api.ErrMalformed, func(x *sketch) { x.samples = "\x00\x01\x00\x02\x00\x03\x00\x04" }},
		{"no SSND", 14, api.ErrMalformed, func(x *sketch) { x.ssnds = 0 }},
	}
}

func TestEachFaultAlone(t *testing.T) {
	answers(t, "as it is", rightSketch().text(), api.OK)
	for _, f := range faults() {
		x := rightSketch()
		f.do(&x)
		answers(t, f.what, x.text(), f.want)
	}
}

// Two faults at once, whichever is made first; where both are of one part the later one stands alone, which the model knows.
func TestOrderOfFaults(t *testing.T) {
	for i, f := range faults() {
		for _, g := range faults()[i+1:] {
			x, y := rightSketch(), rightSketch()
			f.do(&x)
			g.do(&x)
			g.do(&y)
			f.do(&y)
			if x == y && f.step != g.step {
				answers(t, f.what+", and "+g.what, x.text(), f.want)
			}
			parses(t, x.text())
			parses(t, y.text())
		}
	}
}

// Where no COMM or no SSND is there, nothing is told of it.
func TestFaultsOfWhatIsNotThere(t *testing.T) {
	for _, f := range faults() {
		if f.step >= 6 {
			x := rightSketch()
			f.do(&x)
			x.comms = 0
			answers(t, f.what+", and no COMM", x.text(), api.ErrMalformed)
		}
		if f.step >= 12 {
			x := rightSketch()
			f.do(&x)
			x.ssnds, x.count = 0, 0
			answers(t, f.what+", and no SSND", x.text(), api.OK)
		}
	}
}
