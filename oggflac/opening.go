package oggflac

import (
	"lacquer/api"
	"lacquer/bytes"
)

// The first packet: its mark, the places of its numbers, where in it the stream begins as FLAC has it, and where its first block.
const (
	mark       = "\x7fFLAC"
	majorAt    = 5
	minorAt    = 6
	countAt    = 7
	streamAt   = 9
	blockAt    = 13
	firstSize  = 51
	streamMark = "fLaC"
)

const (
	major      = 1 // there is no other one
	maxMinor   = 255
	countWidth = streamAt - countAt
)

// opened is what the first packet says ahead of the stream.
func opened(packets []string) (api.Ogg, api.Errno) {
	if len(packets) == 0 || len(packets[0]) != firstSize {
		return api.Ogg{}, api.ErrMalformed
	}
	first := packets[0]
	if first[:majorAt] != mark || first[streamAt:blockAt] != streamMark {
		return api.Ogg{}, api.ErrMalformed
	}
	if first[majorAt] != major {
		return api.Ogg{}, api.ErrUnsupported
	}
	return api.Ogg{Major: major, Minor: int(first[minorAt]), Count: bytes.FromBe(first[countAt:streamAt])}, api.OK
}

// opening is what the first packet has ahead of the stream.
func opening(o api.Ogg) string {
	return mark + be(o.Major, 1) + be(o.Minor, 1) + be(o.Count, countWidth)
}

// mayOpen says whether the numbers of the first packet may be these.
func mayOpen(o api.Ogg) bool {
	return o.Major == major && o.Minor >= 0 && o.Minor <= maxMinor && isCount(o.Count, o.Flac.Blocks)
}

// isCount says whether Count may be said of the metadata: how many blocks there are besides the first one, or nothing.
func isCount(count int, blocks []api.Block) bool {
	return count == 0 || count == len(blocks)-1
}

// be is a number that is known to fit.
func be(n, width int) string {
	s, _ := bytes.Be(n, width)
	return s
}
