package sums_test

import (
	"hash/crc32"
	"strconv"
	"strings"
	"testing"

	"lacquer/sums"
)

// Promise 3.1.

func TestExamples(t *testing.T) {
	want := map[string]int{"Crc8": 244, "Crc16": 65256, "Ogg": 2309065087, "Crc32": 3421780262}
	for _, k := range kinds() {
		same(t, k, "123456789", k.call("123456789"), want[k.name])
		same(t, k, "nothing", k.call(""), 0)
		same(t, k, "123456789 in the model", k.model("123456789"), want[k.name])
		same(t, k, "nothing in the model", k.model(""), 0)
	}
}

// The byte 1 behind nothing is the polynomial itself, where nothing is turned.
func TestPolynomials(t *testing.T) {
	if n := sums.Crc8("\x01"); n != 0x07 {
		t.Errorf("Crc8: %#x", n)
	}
	if n := sums.Crc16("\x01"); n != 0x8005 {
		t.Errorf("Crc16: %#x", n)
	}
	if n := sums.Ogg("\x01"); n != 0x04c11db7 {
		t.Errorf("Ogg: %#x", n)
	}
	// The register of 32 bits 1 makes bits 0 of all these but the last one.
	if n := sums.Crc32("\xff\xff\xff\x7f"); n != 0xedb88320^0xffffffff {
		t.Errorf("Crc32: %#x", n)
	}
}

func TestOneByte(t *testing.T) {
	for _, k := range kinds() {
		seen := map[int]bool{}
		for i := range 256 {
			s := string([]byte{byte(i)})
			same(t, k, strconv.Quote(s), k.call(s), k.model(s))
			seen[k.call(s)] = true
		}
		if len(seen) != 256 {
			t.Errorf("%s: %d sums of 256 bytes", k.name, len(seen))
		}
	}
}

func TestAllBytes(t *testing.T) {
	s := all256()
	for _, k := range kinds() {
		same(t, k, "all bytes", k.call(s), k.model(s))
		for i := range 256 {
			same(t, k, "bytes up to "+strconv.Itoa(i), k.call(s[:i]), k.model(s[:i]))
			same(t, k, "bytes from "+strconv.Itoa(i), k.call(s[i:]), k.model(s[i:]))
		}
	}
}

// Bytes 0 ahead are nothing to a sum that begins from 0 on, but are told by one that begins with 0xFFFFFFFF.
func TestBytesOfZero(t *testing.T) {
	for count := 1; count <= 20; count++ {
		zeros := strings.Repeat("\x00", count)
		for _, k := range plain() {
			same(t, k, "zeros", k.call(zeros), 0)
			same(t, k, "zeros and a text", k.call(zeros+"text"), k.call("text"))
		}
		if sums.Crc32(zeros+"text") == sums.Crc32("text") || sums.Crc32(zeros) == 0 {
			t.Errorf("Crc32 is blind for %d zeros", count)
		}
	}
}

func TestTexts(t *testing.T) {
	r := numbers(31)
	for range 2000 {
		s := r.text(r.below(300))
		for _, k := range kinds() {
			same(t, k, strconv.Quote(s), k.call(s), k.model(s))
			same(t, k, "the same again", k.call(s), k.call(s))
		}
	}
}

func TestInRange(t *testing.T) {
	r := numbers(32)
	for range 5000 {
		s := r.text(r.below(30))
		for _, k := range kinds() {
			if n := k.call(s); n < 0 || n >= 1<<(8*k.bytes) {
				t.Fatalf("%s of %q: %d", k.name, s, n)
			}
		}
	}
}

// All bytes count, be they runes or not.
func TestTextsThatAreNoRunes(t *testing.T) {
	for _, s := range []string{"\xff", "\xc3", "\xc3\xa9", "é", "\xed\xa0\x80", "\xf4\x90\x80\x80", "\xef\xbf\xbd", "\x00\xff\x00"} {
		for _, k := range kinds() {
			same(t, k, strconv.Quote(s), k.call(s), k.model(s))
		}
	}
}

func TestLongText(t *testing.T) {
	r := numbers(33)
	s := r.text(1<<20 + 3)
	same(t, kinds()[3], "a long text", sums.Crc32(s), int(crc32.ChecksumIEEE([]byte(s))))
	for _, k := range plain() {
		sum := k.call(s)
		// What stands ahead counts as its sum does.
		same(t, k, "a long text's sum", k.call(k.highFirst(sum)), k.call(s+strings.Repeat("\x00", k.bytes)))
	}
}
