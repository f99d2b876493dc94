package digest_test

import (
	"strconv"
	"strings"
	"testing"

	"lacquer/digest"
)

// Promise 4.2: a sum that is added to.

func TestNewIsOfNothing(t *testing.T) {
	s := digest.New()
	if s == nil {
		t.Fatal("New is nil")
	}
	holds(t, "nothing", s, "")
	s.Add("")
	holds(t, "an empty piece", s, "")
	s.Add("")
	s.Add("abc")
	holds(t, "abc behind empty pieces", s, "abc")
}

func TestAddOfWholeTexts(t *testing.T) {
	r := numbers(48)
	for _, n := range edges() {
		s := r.text(n)
		holds(t, strconv.Itoa(n)+" bytes", added(s), s)
		same(t, strconv.Itoa(n)+" bytes by Of", added(s).Value(), digest.Of(s))
	}
}

func TestValueAndLenBetweenPieces(t *testing.T) {
	r := numbers(49)
	for range 300 {
		s := digest.New()
		ahead := ""
		for _, p := range r.pieces(r.text(r.below(400)), 90) {
			s.Add(p)
			ahead += p
			for range 1 + r.below(3) {
				holds(t, strconv.Quote(ahead), s, ahead)
			}
		}
	}
}

// Value is asked at each length, and what is added behind it counts as if it had not been asked.
func TestValueBehindEachByte(t *testing.T) {
	r := numbers(50)
	text := r.text(260)
	s := digest.New()
	for i := range len(text) {
		holds(t, strconv.Itoa(i)+" bytes", s, text[:i])
		s.Add(text[i : i+1])
	}
	holds(t, "all of them", s, text)
}

func TestValueAtEdgesThenMore(t *testing.T) {
	r := numbers(51)
	for _, n := range edges() {
		for _, m := range edges() {
			a, b := r.text(n), r.text(m)
			s := added(a)
			holds(t, strconv.Itoa(n)+" bytes", s, a)
			s.Add(b)
			holds(t, strconv.Itoa(n)+" and "+strconv.Itoa(m)+" bytes", s, a+b)
		}
	}
}

// Len asked alone, without Value, is the count as well, and counts bytes, not runes.
func TestLen(t *testing.T) {
	s := digest.New()
	count := 0
	for _, p := range []string{"", "a", "bc", "", "é", "\xff\xfe", strings.Repeat("x", 64), strings.Repeat("y", 1000), ""} {
		s.Add(p)
		count += len(p)
		if s.Len() != count {
			t.Errorf("Len: %d, not %d", s.Len(), count)
		}
	}
}

func TestSumThatIsNone(t *testing.T) {
	var s *digest.Sum
	none := func(what string) {
		t.Helper()
		if s.Value() != "" || s.Len() != 0 {
			t.Errorf("%s: % x, %d", what, s.Value(), s.Len())
		}
	}
	none("nothing")
	for _, p := range []string{"", "text", strings.Repeat("x", 64), all256()} {
		s.Add(p)
		none("behind Add")
	}
	if s != nil {
		t.Error("it is a sum")
	}
}

func TestSumThatNewDidNotMake(t *testing.T) {
	var s digest.Sum
	s.Add(all256())
	if s.Len() != 256 || len(s.Value()) != 16 {
		t.Errorf("%d, % x", s.Len(), s.Value())
	}
}

func TestSumsByThemselves(t *testing.T) {
	a, b := digest.New(), digest.New()
	a.Add("one")
	b.Add("another")
	a.Add(" more")
	holds(t, "one more", a, "one more")
	holds(t, "another", b, "another")
	holds(t, "a new one", digest.New(), "")
}

// Sums that are added to in turns do not see each other.
func TestSumsInTurns(t *testing.T) {
	r := numbers(52)
	var row [8]*digest.Sum
	var texts [8]strings.Builder
	for i := range row {
		row[i] = digest.New()
	}
	for range 3000 {
		i, p := r.below(len(row)), r.text(r.below(9))
		row[i].Add(p)
		texts[i].WriteString(p)
		if r.below(20) == 0 {
			holds(t, "its own pieces", row[i], texts[i].String())
		}
	}
	for i, s := range row {
		holds(t, "its own pieces", s, texts[i].String())
	}
}
