package oggflac

import (
	"slices"
	"strings"

	"lacquer/api"
	"lacquer/flac"
	"lacquer/meta"
	"lacquer/page"
)

// pageMark is what a file begins with.
const pageMark = "OggS"

// lastFlag is set in the first byte of the last block.
const lastFlag = 128

// read is what the packets of s say, and its pages, be they cut as they have to be or not.
func read(s string) (api.PCM, api.Ogg, api.Errno) {
	pages, packets, e := pagesIn(s)
	if e != api.OK {
		return api.PCM{}, api.Ogg{}, e
	}
	o, e := opened(packets)
	if e != api.OK {
		return api.PCM{}, api.Ogg{}, e
	}
	blocks, e := metadata(packets)
	if e == api.OK && !isCount(o.Count, blocks) {
		e = api.ErrMalformed
	}
	if e != api.OK {
		return api.PCM{}, api.Ogg{}, e
	}
	// Without what Ogg adds the packets are a FLAC stream. Only its frames are left to be looked at, and what STREAMINFO says of their samples.
	p, f, e := flac.Parse(strings.Join(packets, "")[streamAt:])
	o.Pages, o.Flac = pages, f
	return p, o, e
}

// pagesIn is the pages of s, and their packets.
func pagesIn(s string) ([]api.Page, []string, api.Errno) {
	if len(s) > api.MaxFile {
		return nil, nil, api.ErrLarge
	}
	if !strings.HasPrefix(s, pageMark) {
		return nil, nil, api.ErrUnsupported
	}
	return page.Parse(s)
}

// metadata is the blocks of the packets up to the last block.
func metadata(packets []string) ([]api.Block, api.Errno) {
	last := lastBlock(packets)
	if last < 0 {
		return nil, api.ErrMalformed
	}
	own := packets[:last+1]
	blocks, _, e := meta.Parse(strings.Join(own, "")[blockAt:])
	if e != api.OK {
		return nil, e
	}
	if !slices.EqualFunc(blockSizes(blocks), own, isAsLong) {
		return nil, api.ErrMalformed
	}
	return blocks, api.OK
}

// lastBlock is in which packet the last block stands; -1: in none. What is no block is not told apart here: meta.Parse refuses it.
func lastBlock(packets []string) int {
	for k, s := range packets {
		if k == 0 {
			s = s[blockAt:]
		}
		if s != "" && s[0] >= lastFlag {
			return k
		}
	}
	return -1
}

func isAsLong(size int, packet string) bool {
	return size == len(packet)
}
