package bytes_test

import (
	"math/big"
	"strconv"
	"strings"
	"testing"

	"lacquer/api"
)

// The tests hold the package against the chapter's words spelt out by numbers without an end and by texts of binary digits.

// power is 2^exponent.
func power(exponent int) *big.Int {
	return new(big.Int).Lsh(big.NewInt(1), uint(exponent))
}

// bigFirst is n in width bytes, the highest first; false, if it may not be.
func bigFirst(n *big.Int, width int) (string, bool) {
	if width < 1 || width > 8 || n.Sign() < 0 || n.Cmp(power(8*width)) >= 0 {
		return "", false
	}
	return string(n.FillBytes(make([]byte, width))), true
}

// turned is a text from its end to its beginning.
func turned(s string) string {
	var b strings.Builder
	for i := len(s) - 1; i >= 0; i-- {
		b.WriteByte(s[i])
	}
	return b.String()
}

// fromBigFirst is the number that s is, or -1.
func fromBigFirst(s string) int {
	n := new(big.Int).SetBytes([]byte(s))
	if len(s) > 8 || !n.IsInt64() {
		return -1
	}
	return int(n.Int64())
}

// binary is n in width binary digits.
func binary(n, width int) string {
	d := strconv.FormatInt(int64(n), 2)
	return strings.Repeat("0", width-len(d)) + d
}

// packed is digits, whole bytes of them, as a text.
func packed(digits string) string {
	var b strings.Builder
	for ; digits != ""; digits = digits[8:] {
		n, _ := strconv.ParseUint(digits[:8], 2, 8)
		b.WriteByte(byte(n))
	}
	return b.String()
}

// limits are the first numbers past what 1, 2, and so on to 7 bytes hold as a coded number.
func limits() [7]int {
	return [7]int{1 << 7, 1 << 11, 1 << 16, 1 << 21, 1 << 26, 1 << 31, 1 << 36}
}

// codedModel is n, 0 to 2^36 - 1, in count bytes, as few or not.
func codedModel(n, count int) string {
	if count == 1 {
		return string([]byte{byte(n)})
	}
	head := strings.Repeat("1", count) + "0"
	room := 8 - len(head)
	d := binary(n, room+6*(count-1))
	code := head + d[:room]
	for d = d[room:]; d != ""; d = d[6:] {
		code += "10" + d[:6]
	}
	return packed(code)
}

// codedCount is how many bytes n has as a coded number.
func codedCount(n int) int {
	for i, limit := range limits() {
		if n < limit {
			return i + 1
		}
	}
	return 0
}

// uncodedModel is 2.2's reading of a text, word by word.
func uncodedModel(s string) (int, int, api.Errno) {
	if s == "" {
		return 0, 0, api.ErrEnd
	}
	first := int(s[0])
	if first >= 128 && first <= 191 || first == 255 {
		return 0, 0, api.ErrMalformed
	}
	count := strings.Index(binary(first, 8), "0")
	d := binary(first, 8)[count+1:]
	count = max(count, 1)
	for i := 1; i < count; i++ {
		if i >= len(s) {
			return 0, 0, api.ErrEnd
		}
		if s[i] < 128 || s[i] > 191 {
			return 0, 0, api.ErrMalformed
		}
		d += binary(int(s[i]), 8)[2:]
	}
	n, _ := strconv.ParseInt(d, 2, 64)
	if codedCount(int(n)) != count {
		return 0, 0, api.ErrMalformed
	}
	return int(n), count, api.OK
}

// rateModel is 2.3's bytes of n, which may be a rate.
func rateModel(n int) string {
	e := 0
	for power(e+1).Cmp(big.NewInt(int64(n))) <= 0 {
		e++
	}
	head, _ := bigFirst(big.NewInt(int64(16383+e)), 2)
	tail, _ := bigFirst(new(big.Int).Mul(big.NewInt(int64(n)), power(63-e)), 8)
	return head + tail
}

// numbers is a fixed row of numbers that look like chance (SplitMix64).
type numbers uint64

func (r *numbers) next() uint64 {
	*r += 0x9e3779b97f4a7c15
	x := uint64(*r)
	x = (x ^ x>>30) * 0xbf58476d1ce4e5b9
	x = (x ^ x>>27) * 0x94d049bb133111eb
	return x ^ x>>31
}

func (r *numbers) below(n int) int { return int(r.next() % uint64(n)) }

// sized is a number of whatever length, below 0 now and then.
func (r *numbers) sized() int { return int(r.next()) >> r.below(64) }

// text is count bytes.
func (r *numbers) text(count int) string {
	s := make([]byte, count)
	for i := range s {
		s[i] = byte(r.next())
	}
	return string(s)
}

// text fails, unless a text and an error are the wanted ones.
func text(t *testing.T, what string, got string, errno api.Errno, want string, wanted api.Errno) {
	t.Helper()
	if got != want || errno != wanted {
		t.Fatalf("%s: % x, error %d; not % x, error %d", what, got, errno, want, wanted)
	}
}
