package meta_test

import (
	"slices"
	"testing"
	"unsafe"

	"lacquer/api"
	"lacquer/meta"
)

// Rule R4, of all calls: what is handed in is left as it was, also behind the end of a list, and what is handed out is new.

// roomy is l with blocks behind its end.
func roomy(l []api.Block) []api.Block {
	more := append(slices.Clone(l), api.Block{Type: 77, Body: "one"}, api.Block{Type: -7, Body: "two"})
	return more[:len(l):len(more)]
}

// spoil writes over all that lies in the memory of a list.
func spoil(l []api.Block) {
	l = l[:cap(l)]
	for i := range l {
		l[i] = api.Block{Type: -99, Body: "spoilt"}
	}
}

func TestWhatIsHandedInIsLeft(t *testing.T) {
	r := numbers(1351)
	for range 1000 {
		l := roomy(r.blocks(5))
		was := slices.Clone(l[:cap(l)])
		if _, e := meta.Build(l); e != api.OK {
			t.Fatal(e)
		}
		meta.Build(l[1:])
		meta.Build(l[:0])
		meta.Build(l[:len(l)+1])
		for _, b := range l {
			meta.Check(b)
		}
		if !slices.Equal(l[:cap(l)], was) {
			t.Fatalf("%s became %s", short(was), short(l[:cap(l)]))
		}
	}
}

// What is done to an answer is not to be seen in another one, nor what is done to what was handed in.
func TestWhatIsHandedOutIsNew(t *testing.T) {
	r := numbers(1352)
	for range 1000 {
		l := r.blocks(5)
		s := text(l...)
		m, _, _ := meta.Parse(s)
		other, _, _ := meta.Parse(s)
		spoil(m)
		if !slices.Equal(other, l) {
			t.Fatalf("an answer became %s", short(other))
		}
		isParse(t, s, l, len(s))
		u, _ := meta.Build(l)
		spoil(l)
		if u != s {
			t.Fatal("what was built hangs on what was handed in")
		}
	}
}

// within says whether a text of some bytes lies in the memory of s.
func within(part, s string) bool {
	if part == "" || s == "" {
		return false
	}
	from, at := uintptr(unsafe.Pointer(unsafe.StringData(s))), uintptr(unsafe.Pointer(unsafe.StringData(part)))
	return at >= from && at < from+uintptr(len(s))
}

// One who keeps a block or a Digest does not keep the text that it came from.
func TestTextsAreNew(t *testing.T) {
	r := numbers(1353)
	for range 500 {
		l := r.blocks(5)
		s, _ := meta.Build(l)
		m, _, _ := meta.Parse(s)
		for k, b := range m {
			if within(b.Body, s) {
				t.Fatalf("block %d lies in the text", k)
			}
			for j := range k {
				if within(b.Body, m[j].Body) {
					t.Fatalf("block %d lies in block %d", k, j)
				}
			}
			if within(s, l[k].Body) || within(l[k].Body, s) {
				t.Fatalf("the text lies in block %d that was handed in", k)
			}
		}
		i, _ := meta.Info(m[0].Body)
		if within(i.Digest, m[0].Body) {
			t.Fatal("the Digest lies in the text")
		}
		if u, _ := meta.LayInfo(i); within(i.Digest, u) {
			t.Fatal("the text has the Digest that was handed in")
		}
	}
}

// A list that is empty is the same as none (R3), and the same arguments have the same answers, however often.
func TestTheSameAgain(t *testing.T) {
	r := numbers(1354)
	l, other := r.blocks(5), many(1025)
	s := text(l...)
	for range 3 {
		isBuild(t, "none", nil, api.ErrRecipe)
		isBuild(t, "an empty list", []api.Block{}, api.ErrRecipe)
		isBuild(t, "an empty list with room", make([]api.Block, 0, 4), api.ErrRecipe)
		isBuild(t, "blocks", l, api.OK)
		isBuild(t, "too many", other, api.ErrRecipe)
		isParse(t, s, l, len(s))
		refuses(t, "too many", text(other...), api.ErrLarge)
		isInfo(t, exampleText)
		isLayInfo(t, example)
	}
}
