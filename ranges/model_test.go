package ranges_test

import (
	"fmt"
	"math/big"
	"testing"

	"lacquer/api"
	"lacquer/ranges"
)

// The tests hold the package against the chapter's words spelt out, and its texts also against one great number each.

// part is one call of Put; or of Bits, if bits is not 0: then it is from of so many bits.
type part struct{ from, size, total, bits int }

// ofBits is the part that a call of Bits puts.
func ofBits(n, width int) part {
	total := 1
	for range width {
		total *= 2
	}
	return part{n, 1, total, width}
}

// put puts p as it asks.
func put(e *ranges.Encoder, p part) api.Errno {
	if p.bits != 0 {
		return e.Bits(p.from, p.bits)
	}
	return e.Put(p.from, p.size, p.total)
}

// mayBe says whether Put takes these numbers. An int may not have the sum of two of them.
func mayBe(from, size, total int) bool {
	sum := new(big.Int).Add(big.NewInt(int64(from)), big.NewInt(int64(size)))
	return total >= 1 && total <= 65536 && from >= 0 && size >= 1 && sum.Cmp(big.NewInt(int64(total))) <= 0
}

// came counts which of the edges a row came to.
type came map[string]int

// note counts the edge, if it is there.
func (c came) note(edge string, there bool) {
	if there {
		c[edge]++
	}
}

// encoderModel is the chapter's encoder.
type encoderModel struct {
	low, span, held, count int
	text                   []byte
	came                   came
}

func newModel() *encoderModel {
	return &encoderModel{span: 4294967295, count: 1, came: came{}}
}

// write writes n modulo 256.
func (m *encoderModel) write(n int) { m.text = append(m.text, byte(n%256)) }

func (m *encoderModel) shift() {
	m.note()
	if m.low < 255*16777216 || m.low >= 4294967296 {
		carried := m.low / 4294967296
		m.write(m.held + carried)
		for i := 1; i < m.count; i++ {
			m.write(255 + carried)
		}
		m.count = 0
		m.held = m.low / 16777216 % 256
	}
	m.count++
	m.low = m.low % 16777216 * 256
}

// note counts what a Shift comes to.
func (m *encoderModel) note() {
	carried := m.low >= 4294967296
	writes := carried || m.low < 4278190080
	m.came.note("low just below 255 times 2^24", m.low == 4278190079)
	m.came.note("low just 255 times 2^24", m.low == 4278190080)
	m.came.note("low 2^32 - 1", m.low == 4294967295)
	m.came.note("low 2^32", m.low == 4294967296)
	m.came.note("carry", carried)
	m.came.note("no carry", writes && !carried)
	m.came.note("carry through one", carried && m.count == 2)
	m.came.note("carry through two", carried && m.count == 3)
	m.came.note("carry through many", carried && m.count > 100)
	m.came.note("one of 255 without a carry", writes && !carried && m.count == 2)
	m.came.note("many of 255 without a carry", writes && !carried && m.count > 100)
	m.came.note("held byte of 255 without a carry", writes && !carried && m.held == 255)
	m.came.note("held byte becomes 255", writes && m.low/16777216%256 == 255)
}

// put is the chapter's Put of a part that may be.
func (m *encoderModel) put(p part) {
	one := m.span / p.total
	m.low += one * p.from
	m.span = one * p.size
	m.came.note("range just below 2^24", m.span == 16777215)
	m.came.note("range just 2^24", m.span == 16777216)
	m.came.note("range just below 2^16", m.span == 65535)
	m.came.note("range just 2^16", m.span == 65536)
	m.came.note("no Shift", m.span >= 16777216)
	m.came.note("one Shift", m.span >= 65536 && m.span < 16777216)
	m.came.note("two Shifts", m.span < 65536)
	for m.span < 16777216 {
		m.span *= 256
		m.shift()
	}
}

// finish is the chapter's Finish; the model ends with it.
func (m *encoderModel) finish() string {
	for range 5 {
		m.shift()
	}
	return string(m.text)
}

// textOf is what the chapter says that Finish tells of a row, and what the row comes to.
func textOf(row []part) (string, came) {
	m := newModel()
	for _, p := range row {
		m.put(p)
	}
	return m.finish(), m.came
}

// numberOf is that text as one number that has room for all: low, with no byte taken out of it.
func numberOf(row []part) string {
	low, span, shifts := new(big.Int), 4294967295, 0
	for _, p := range row {
		one := span / p.total
		low.Add(low, big.NewInt(int64(one*p.from)))
		span = one * p.size
		for span < 16777216 {
			span *= 256
			low.Lsh(low, 8)
			shifts++
		}
	}
	return string(low.FillBytes(make([]byte, shifts+5)))
}

// decoderModel is the chapter's decoder.
type decoderModel struct {
	text             string
	used, code, span int
	refused          bool
}

func modelOf(s string) *decoderModel {
	if len(s) < 5 || s[0] != 0 {
		return &decoderModel{refused: true}
	}
	code := 0
	for i := 1; i < 5; i++ {
		code = code*256 + int(s[i])
	}
	return &decoderModel{s, 5, code, 4294967295, false}
}

func (m *decoderModel) peek(total int) (int, api.Errno) {
	if total < 1 || total > 65536 {
		return 0, api.ErrArg
	}
	if m.refused {
		return 0, api.ErrMalformed
	}
	n := m.code / (m.span / total)
	if n > total-1 {
		n = total - 1
	}
	return n, api.OK
}

func (m *decoderModel) take(from, size, total int) api.Errno {
	if !mayBe(from, size, total) {
		return api.ErrArg
	}
	n, e := m.peek(total)
	if e != api.OK {
		return e
	}
	if n < from || n >= from+size {
		return api.ErrMalformed
	}
	one := m.span / total
	code, span, used := m.code-one*from, one*size, m.used
	for span < 16777216 {
		if used == len(m.text) {
			m.refused = true
			return api.ErrMalformed
		}
		code = (code*256 + int(m.text[used])) % 4294967296
		span *= 256
		used++
	}
	m.code, m.span, m.used = code, span, used
	return api.OK
}

func (m *decoderModel) bits(width int) (int, api.Errno) {
	if width < 1 || width > 16 {
		return 0, api.ErrArg
	}
	total := ofBits(0, width).total
	n, e := m.peek(total)
	if e == api.OK {
		e = m.take(n, 1, total)
	}
	if e != api.OK {
		n = 0
	}
	return n, e
}

// both is a decoder and the model of one text.
type both struct {
	text  string
	d     *ranges.Decoder
	model *decoderModel
}

// of is both of s.
func of(t *testing.T, s string) both {
	t.Helper()
	b := both{s, ranges.Of(s), modelOf(s)}
	b.isUsed(t, "the beginning")
	return b
}

// isUsed fails, unless Used is as the model has it.
func (b both) isUsed(t *testing.T, behind string) {
	t.Helper()
	if n := b.d.Used(); n != b.model.used {
		t.Fatalf("%s: Used is %d behind %s, not %d", short(b.text), n, behind, b.model.used)
	}
}

// isSame fails, unless a call answered what the model does, and used as much.
func (b both) isSame(t *testing.T, call string, n int, e api.Errno, want int, errno api.Errno) {
	t.Helper()
	if n != want || e != errno {
		t.Fatalf("%s: %s is %d, error %d; not %d, error %d", short(b.text), call, n, e, want, errno)
	}
	b.isUsed(t, call)
}

func (b both) peek(t *testing.T, total int) (int, api.Errno) {
	t.Helper()
	n, e := b.d.Peek(total)
	want, errno := b.model.peek(total)
	b.isSame(t, fmt.Sprintf("Peek(%d)", total), n, e, want, errno)
	return n, e
}

func (b both) take(t *testing.T, from, size, total int) api.Errno {
	t.Helper()
	e, errno := b.d.Take(from, size, total), b.model.take(from, size, total)
	b.isSame(t, fmt.Sprintf("Take(%d, %d, %d)", from, size, total), 0, e, 0, errno)
	return e
}

func (b both) bits(t *testing.T, width int) (int, api.Errno) {
	t.Helper()
	n, e := b.d.Bits(width)
	want, errno := b.model.bits(width)
	b.isSame(t, fmt.Sprintf("Bits(%d)", width), n, e, want, errno)
	return n, e
}

// short is a text's beginning in bytes, for what a test says.
func short(s string) string { return fmt.Sprintf("%.60x (%d)", s, len(s)) }

// finished is the text of a row that is put into e.
func finished(t *testing.T, e *ranges.Encoder, row []part) string {
	t.Helper()
	for i, p := range row {
		if errno := put(e, p); errno != api.OK {
			t.Fatalf("part %d, %v: error %d", i, p, errno)
		}
	}
	return e.Finish()
}

// isText fails, unless a call told this text.
func isText(t *testing.T, call, got, want string) {
	t.Helper()
	at := 0
	for at < len(got) && at < len(want) && got[at] == want[at] {
		at++
	}
	if got != want {
		t.Fatalf("%s: %s, not %s; from place %d on %.20x, not %.20x", call, short(got), short(want), at, got[at:], want[at:])
	}
}

// isPut fails, unless the row becomes the text that the model tells, and is taken again. It tells what the row came to.
func isPut(t *testing.T, row []part) came {
	t.Helper()
	want, all := textOf(row)
	call := fmt.Sprintf("%.100s", fmt.Sprint(row))
	isText(t, "the models of "+call, numberOf(row), want)
	isText(t, call, finished(t, ranges.New(), row), want)
	isTaken(t, want, row)
	return all
}

// isTaken fails, unless the row is taken out of s, which is used up then.
func isTaken(t *testing.T, s string, row []part) {
	t.Helper()
	b := of(t, s+"behind")
	for i, p := range row {
		n, e := b.peek(t, p.total)
		if e != api.OK || n < p.from || n-p.from >= p.size {
			t.Fatalf("%s: part %d is %v, but Peek tells %d, error %d", short(s), i, p, n, e)
		}
		if p.bits != 0 {
			n, e = b.bits(t, p.bits)
		} else {
			e = b.take(t, p.from, p.size, p.total)
		}
		if e != api.OK || p.bits != 0 && n != p.from {
			t.Fatalf("%s: part %d is %v, but %d is taken, error %d", short(s), i, p, n, e)
		}
	}
	if b.d.Used() != len(s) {
		t.Fatalf("%s: %d bytes are used", short(s), b.d.Used())
	}
}
