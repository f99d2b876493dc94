package flac

import (
	"lacquer/api"
	"lacquer/pcm"
)

// noDigest is a Digest that says nothing.
const noDigest = "\x00\x00\x00\x00\x00\x00\x00\x00\x00\x00\x00\x00\x00\x00\x00\x00"

// isOf says whether info may be said of a stream whose samples are p.
func isOf(info api.StreamInfo, p api.PCM) bool {
	return info.Rate == p.Rate && info.Channels == p.Channels && info.Width == p.Width &&
		(info.Samples == 0 || info.Samples == pcm.Len(p)) && mayHaveDigest(info.Digest, p)
}

// mayHaveDigest says whether the Digest says nothing, or is that of p.
func mayHaveDigest(said string, p api.PCM) bool {
	if said == noDigest {
		return true
	}
	digest, e := pcm.Digest(p)
	return e == api.OK && said == digest
}
