package ranges_test

import (
	"slices"
	"testing"

	"lacquer/api"
	"lacquer/ranges"
)

// Rules R4 and R5: what a coder answers hangs on what was done to it alone, and what it told stays as it is.

// Two encoders beside each other, and a third one that begins anew again and again.
func TestEncodersBesideEachOther(t *testing.T) {
	r := numbers(1841)
	for range 100 {
		count := r.below(200)
		one, two := r.row(count, kinds), r.row(count, kinds)
		a, b, c := ranges.New(), ranges.New(), ranges.New()
		for i := range count {
			put(a, one[i])
			put(b, two[i])
			put(c, one[i])
			c.Finish()
		}
		first, second := a.Finish(), b.Finish()
		want, _ := textOf(one)
		isText(t, "the first one", first, want)
		want, _ = textOf(two)
		isText(t, "the second one", second, want)
	}
}

// The same calls tell the same text.
func TestSameTextAgain(t *testing.T) {
	r := numbers(1842)
	row := r.row(3000, kinds)
	s := finished(t, ranges.New(), row)
	for range 5 {
		isText(t, "the same row", finished(t, ranges.New(), row), s)
	}
}

// A text that was told stays, whatever is put into its encoder behind it.
func TestToldTextsStay(t *testing.T) {
	r := numbers(1843)
	e := ranges.New()
	var texts, were []string
	for range 50 {
		s := finished(t, e, r.row(r.below(300), kinds))
		texts = append(texts, s)
		were = append(were, string([]byte(s)))
	}
	if !slices.Equal(texts, were) {
		t.Fatal("a text has become another one")
	}
}

// Two decoders of one text beside each other, one of which is behind, and meets with wrong calls.
func TestDecodersBesideEachOther(t *testing.T) {
	r := numbers(1844)
	for range 100 {
		row := r.row(1+r.below(100), kinds)
		s, _ := textOf(row)
		ahead, behind := of(t, s), of(t, s)
		for i, p := range row {
			if e := ahead.take(t, p.from, p.size, p.total); e != api.OK {
				t.Fatalf("part %d: error %d", i, e)
			}
			behind.take(t, -1, 1, 1)
			behind.peek(t, 0)
			behind.bits(t, 17)
			if i%2 == 0 {
				q := row[i/2]
				if e := behind.take(t, q.from, q.size, q.total); e != api.OK {
					t.Fatalf("part %d: error %d", i/2, e)
				}
			}
		}
		if ahead.d.Used() != len(s) {
			t.Fatalf("%d of %d bytes are used", ahead.d.Used(), len(s))
		}
	}
}

// Peek changes nothing, however often it is asked.
func TestPeekAgain(t *testing.T) {
	r := numbers(1845)
	row := r.row(500, kinds)
	s, _ := textOf(row)
	b := of(t, s)
	for _, p := range row {
		for range 5 {
			b.peek(t, r.total())
		}
		if e := b.take(t, p.from, p.size, p.total); e != api.OK {
			t.Fatalf("%v: error %d", p, e)
		}
	}
}

// Many coders at once, each with its own row.
func TestManyAtOnce(t *testing.T) {
	done := make(chan bool)
	for i := range 8 {
		go func() {
			r := numbers(1846 + i)
			row := r.row(20000, kinds)
			want, _ := textOf(row)
			e := ranges.New()
			for _, p := range row {
				put(e, p)
			}
			done <- e.Finish() == want
		}()
	}
	for range 8 {
		if !<-done {
			t.Fatal("another text")
		}
	}
}
