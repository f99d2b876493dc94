package bits

import "lacquer/api"

// Writer gathers bits. Behind the last of them its bytes hold bits 0 up to a whole byte, so that Bytes and Align have nothing to add.
type Writer struct {
	bytes []byte
	count int // of bits
}

// New is a writer of nothing.
func New() *Writer { return &Writer{} }

// Put writes the width lowest bits of n, which has no others.
func (w *Writer) Put(n uint64, width int) api.Errno {
	if w == nil {
		return api.ErrArg
	}
	if width < 0 || width > maxWidth || n>>width != 0 {
		return api.ErrWidth
	}
	w.put(n, width)
	return api.OK
}

// Signed writes the two's complement of n in width bits.
func (w *Writer) Signed(n, width int) api.Errno {
	if w == nil {
		return api.ErrArg
	}
	if width < 1 || width > maxWidth {
		return api.ErrWidth
	}
	// What is left of n above its width less 1 bits is its sign alone, if it fits.
	if sign := n >> (width - 1); sign != 0 && sign != -1 {
		return api.ErrWidth
	}
	w.put(uint64(n), width)
	return api.OK
}

// Unary writes n bits 0 and a bit 1.
func (w *Writer) Unary(n int) api.Errno {
	if w == nil {
		return api.ErrArg
	}
	if n < 0 || n > maxUnary {
		return api.ErrWidth
	}
	w.unary(n)
	return api.OK
}

// Rice writes the Rice code of n with the parameter k.
func (w *Writer) Rice(n, k int) api.Errno {
	if w == nil {
		return api.ErrArg
	}
	if k < 0 || k > maxRice {
		return api.ErrWidth
	}
	u := folded(n)
	if u>>k > maxUnary {
		return api.ErrWidth
	}
	w.unary(int(u >> k))
	w.put(u, k)
	return api.OK
}

// Align writes bits 0 up to a whole byte.
func (w *Writer) Align() {
	if w != nil {
		w.count = 8 * len(w.bytes)
	}
}

// Len is how many bits were written.
func (w *Writer) Len() int {
	if w == nil {
		return 0
	}
	return w.count
}

// Bytes is all that was written, with bits 0 up to a whole byte.
func (w *Writer) Bytes() string {
	if w == nil {
		return ""
	}
	return string(w.bytes)
}

// put writes the width lowest bits of n, whatever stands above them.
func (w *Writer) put(n uint64, width int) {
	for width > 0 {
		if w.count == 8*len(w.bytes) {
			w.bytes = append(w.bytes, 0)
		}
		last := len(w.bytes) - 1
		room := 8*len(w.bytes) - w.count
		take := min(room, width)
		part := n >> (width - take) & (1<<take - 1)
		w.bytes[last] |= byte(part << (room - take))
		w.count += take
		width -= take
	}
}

// unary writes n bits 0 and a bit 1; the bits 0 as whole bytes at once, for there may be millions.
func (w *Writer) unary(n int) {
	w.count += n
	need := (w.count+7)/8 - len(w.bytes)
	w.bytes = append(w.bytes, make([]byte, need)...)
	w.put(1, 1)
}
