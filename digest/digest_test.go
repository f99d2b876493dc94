package digest_test

import (
	"crypto/md5"
	"encoding/hex"
	"strconv"
	"strings"
	"testing"

	"lacquer/digest"
)

// Promise 4.1, and of 4.2 the calls that take a whole text.

// rfc1321 is RFC 1321's list of texts and digests; the chapter's examples are among them.
func rfc1321() [][2]string {
	return [][2]string{
		{"", "d41d8cd98f00b204e9800998ecf8427e"},
		{"a", "0cc175b9c0f1b6a831c399e269772661"},
		{"abc", "900150983cd24fb0d6963f7d28e17f72"},
		{"message digest", "f96b697d7cb7938d525a2f31aaf161d0"},
		{"abcdefghijklmnopqrstuvwxyz", "c3fcd3d76192e4007dfb496cca67e13b"},
		{"ABCDEFGHIJKLMNOPQRSTUVWXYZabcdefghijklmnopqrstuvwxyz0123456789", "d174ab98d277d9f5a5611c2c9f419d9f"},
		{strings.Repeat("1234567890", 8), "57edf4a22be3c955ac49da2e2107b67a"},
	}
}

func TestExamples(t *testing.T) {
	for _, c := range rfc1321() {
		if got := digest.Hex(c[0]); got != c[1] {
			t.Errorf("Hex(%q): %s, not %s", c[0], got, c[1])
		}
		want, _ := hex.DecodeString(c[1])
		same(t, strconv.Quote(c[0]), digest.Of(c[0]), string(want))
		same(t, strconv.Quote(c[0])+" in pieces", added(strings.Split(c[0], "")...).Value(), string(want))
		same(t, strconv.Quote(c[0])+" in the model", model(c[0]), string(want))
	}
}

func TestEachLength(t *testing.T) {
	r := numbers(41)
	s := r.text(520)
	for n := range len(s) + 1 {
		same(t, strconv.Itoa(n)+" bytes", digest.Of(s[:n]), model(s[:n]))
		same(t, strconv.Itoa(n)+" last bytes", digest.Of(s[len(s)-n:]), model(s[len(s)-n:]))
	}
}

func TestEdgesOfBlocks(t *testing.T) {
	r := numbers(42)
	for _, n := range edges() {
		texts := []string{r.text(n), strings.Repeat("\x00", n), strings.Repeat("\x80", n), strings.Repeat("\xff", n)}
		for _, s := range texts {
			same(t, strconv.Itoa(n)+" bytes", digest.Of(s), model(s))
			// What is like the bytes that follow a text is a text all the same.
			same(t, strconv.Itoa(n)+" bytes and 128", digest.Of(s+"\x80"), model(s+"\x80"))
			same(t, strconv.Itoa(n)+" bytes, 128 and 0", digest.Of(s+"\x80\x00"), model(s+"\x80\x00"))
		}
	}
}

// Texts of bytes 0 are told apart by their lengths alone.
func TestTextsOfZeros(t *testing.T) {
	seen := map[string]int{}
	for n := range 300 {
		d := digest.Of(strings.Repeat("\x00", n))
		if m, ok := seen[d]; ok {
			t.Fatalf("%d and %d bytes 0 have one digest", m, n)
		}
		seen[d] = n
	}
}

func TestOneByte(t *testing.T) {
	for i := range 256 {
		s := string([]byte{byte(i)})
		same(t, strconv.Quote(s), digest.Of(s), model(s))
	}
}

func TestAllBytes(t *testing.T) {
	s := all256()
	same(t, "all bytes", digest.Of(s), model(s))
	for i := range 256 {
		same(t, "bytes up to "+strconv.Itoa(i), digest.Of(s[:i]), model(s[:i]))
		same(t, "bytes from "+strconv.Itoa(i), digest.Of(s[i:]), model(s[i:]))
		same(t, "64 times "+strconv.Itoa(i), digest.Of(strings.Repeat(s[i:i+1], 64)), model(strings.Repeat(s[i:i+1], 64)))
	}
}

// All bytes count, be they runes or not.
func TestTextsThatAreNoRunes(t *testing.T) {
	for _, s := range []string{"\xff", "\xc3", "\xc3\xa9", "é", "\xed\xa0\x80", "\xf4\x90\x80\x80", "\xef\xbf\xbd", "\x00\xff\x00"} {
		same(t, strconv.Quote(s), digest.Of(s), model(s))
	}
}

func TestTexts(t *testing.T) {
	r := numbers(43)
	for range 5000 {
		s := r.text(r.below(400))
		same(t, strconv.Quote(s), digest.Of(s), model(s))
		same(t, "the same again", digest.Of(s), digest.Of(s))
	}
}

func TestLongText(t *testing.T) {
	r := numbers(44)
	s := r.text(1<<20 + 3)
	same(t, "a long text", digest.Of(s), model(s))
	same(t, "a long text of whole blocks", digest.Of(s[:1<<20]), model(s[:1<<20]))
}

// From 2^29 bytes on the count of bits needs more than 4 bytes.
func TestCountOfBitsPastFourBytes(t *testing.T) {
	if testing.Short() {
		t.Skip("it adds 512 MiB")
	}
	r := numbers(45)
	piece := r.text(1 << 20)
	bytes := []byte(piece)
	sum, other := digest.New(), md5.New()
	for range 1 << 9 {
		sum.Add(piece)
		other.Write(bytes)
	}
	same(t, "2^29 bytes", sum.Value(), string(other.Sum(nil)))
	sum.Add("abc")
	other.Write([]byte("abc"))
	same(t, "2^29 + 3 bytes", sum.Value(), string(other.Sum(nil)))
	if sum.Len() != 1<<29+3 {
		t.Errorf("Len: %d", sum.Len())
	}
}

func TestHexIsTheDigitsOfOf(t *testing.T) {
	r := numbers(46)
	seen := map[rune]bool{}
	for range 2000 {
		s := r.text(r.below(200))
		h := digest.Hex(s)
		if len(h) != 32 || h != hex.EncodeToString([]byte(digest.Of(s))) {
			t.Fatalf("Hex(%q): %s", s, h)
		}
		for _, c := range h {
			seen[c] = true
		}
	}
	if len(seen) != 16 {
		t.Errorf("%d digits are in use", len(seen))
	}
}

func TestOfIsSixteenBytes(t *testing.T) {
	r := numbers(47)
	for range 2000 {
		s := r.text(r.below(200))
		if d := digest.Of(s); len(d) != 16 {
			t.Fatalf("Of(%q) has %d bytes", s, len(d))
		}
	}
}
