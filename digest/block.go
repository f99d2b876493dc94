package digest

import (
	mathbits "math/bits"

	"lacquer/bytes"
)

const (
	wordBytes  = 4
	blockWords = blockBytes / wordBytes
	steps      = 64
)

// numbers are the four that a digest is made of.
type numbers [4]uint32

// words are a block's bytes as numbers.
type words [blockWords]uint32

// turns are by how many bits each step turns: a row for 16 steps, gone through again and again.
var turns = [4][4]int{
	{7, 12, 17, 22},
	{5, 9, 14, 20},
	{4, 11, 16, 23},
	{6, 10, 15, 21},
}

// sines are the whole parts of 2^32 times the sizes of the sines of 1 to 64. They are written out, for all arithmetic is of whole numbers.
var sines = [steps]uint32{
	0xD76AA478, 0xE8C7B756, 0x242070DB, 0xC1BDCEEE, 0xF57C0FAF, 0x4787C62A, 0xA8304613, 0xFD469501,
	0x698098D8, 0x8B44F7AF, 0xFFFF5BB1, 0x895CD7BE, 0x6B901122, 0xFD987193, 0xA679438E, 0x49B40821,
	0xF61E2562, 0xC040B340, 0x265E5A51, 0xE9B6C7AA, 0xD62F105D, 0x02441453, 0xD8A1E681, 0xE7D3FBC8,
	0x21E1CDE6, 0xC33707D6, 0xF4D50D87, 0x455A14ED, 0xA9E3E905, 0xFCEFA3F8, 0x676F02D9, 0x8D2A4C8A,
	0xFFFA3942, 0x8771F681, 0x6D9D6122, 0xFDE5380C, 0xA4BEEA44, 0x4BDECFA9, 0xF6BB4B60, 0xBEBFBC70,
	0x289B7EC6, 0xEAA127FA, 0xD4EF3085, 0x04881D05, 0xD9D4D039, 0xE6DB99E5, 0x1FA27CF8, 0xC4AC5665,
	0xF4292244, 0x432AFF97, 0xAB9423A7, 0xFC93A039, 0x655B59C3, 0x8F0CCC92, 0xFFEFF47D, 0x85845DD1,
	0x6FA87E4F, 0xFE2CE6E0, 0xA3014314, 0x4E0811A1, 0xF7537E82, 0xBD3AF235, 0x2AD7D2BB, 0xEB86D391,
}

// wordsOf is a block as numbers, the lowest byte of each first.
func wordsOf(block [blockBytes]byte) words {
	var x words
	for i := range blockWords {
		x[i] = uint32(bytes.FromLe(string(block[i*wordBytes : (i+1)*wordBytes])))
	}
	return x
}

// mixed is what a block makes of the numbers.
func (n numbers) mixed(x words) numbers {
	a, b, c, d := n[0], n[1], n[2], n[3]
	for i := range steps {
		f, g := choice(i, b, c, d)
		turned := mathbits.RotateLeft32(a+f+sines[i]+x[g%blockWords], turns[i/16][i%4])
		a, b, c, d = d, b+turned, b, c
	}
	return numbers{n[0] + a, n[1] + b, n[2] + c, n[3] + d}
}

// choice is what step i makes of three of the numbers, and which word it takes, modulo 16.
func choice(i int, b, c, d uint32) (uint32, int) {
	switch i / 16 {
	case 0:
		return b&c | ^b&d, i
	case 1:
		return d&b | ^d&c, 5*i + 1
	case 2:
		return b ^ c ^ d, 3*i + 5
	default:
		return c ^ (b | ^d), 7 * i
	}
}

// text is the numbers' bytes.
func (n numbers) text() string {
	return word(n[0]) + word(n[1]) + word(n[2]) + word(n[3])
}
