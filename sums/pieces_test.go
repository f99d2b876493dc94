package sums_test

import (
	"math"
	"strconv"
	"strings"
	"testing"

	"lacquer/sums"
)

// Promise 3.2.

func TestNewIsOfNothing(t *testing.T) {
	for _, k := range kinds() {
		s := sums.New(k.number)
		if s == nil {
			t.Fatalf("New(%d) is nil", k.number)
		}
		same(t, k, "nothing", s.Value(), 0)
		s.Add("")
		same(t, k, "an empty piece", s.Value(), 0)
	}
}

func TestNewOfEachKind(t *testing.T) {
	for _, k := range kinds() {
		same(t, k, "the example", k.added("123456789").Value(), k.call("123456789"))
		same(t, k, "the example in two", k.added("1234", "56789").Value(), k.call("123456789"))
	}
}

func TestNewOfKindsThatAreNone(t *testing.T) {
	wrong := []int{math.MinInt, math.MinInt + 8, math.MinInt32, -33, -32, -16, -8, -1, 0, 1, 7, 9, 15, 17, 31, 34, 64,
		math.MaxInt32, math.MaxInt - 8, math.MaxInt}
	for _, k := range kinds() {
		for shift := 6; shift < 64; shift++ {
			wrong = append(wrong, k.number|1<<shift)
		}
	}
	for n := -300; n <= 300; n++ {
		if n != 8 && n != 16 && n != 32 && n != 33 {
			wrong = append(wrong, n)
		}
	}
	for _, n := range wrong {
		if s := sums.New(n); s != nil {
			t.Errorf("New(%d) is a sum", n)
		}
	}
}

func TestSumThatIsNone(t *testing.T) {
	for _, s := range []*sums.Sum{nil, sums.New(7), sums.New(math.MinInt)} {
		if s.Value() != 0 {
			t.Errorf("Value: %d", s.Value())
		}
		s.Add("")
		s.Add("text")
		if s.Value() != 0 {
			t.Errorf("Value behind Add: %d", s.Value())
		}
	}
}

func TestSumThatNewDidNotMake(t *testing.T) {
	var s sums.Sum
	s.Add("text")
	if s.Value() != 0 {
		t.Errorf("Value: %d", s.Value())
	}
}

func TestValueBetweenPieces(t *testing.T) {
	r := numbers(34)
	for range 200 {
		pieces := r.pieces(r.text(r.below(200)))
		for _, k := range kinds() {
			s := sums.New(k.number)
			ahead := ""
			for _, p := range pieces {
				s.Add(p)
				ahead += p
				for range 1 + r.below(2) {
					same(t, k, strconv.Quote(ahead), s.Value(), k.model(ahead))
				}
			}
		}
	}
}

func TestSumsByThemselves(t *testing.T) {
	for _, k := range kinds() {
		a, b := sums.New(k.number), sums.New(k.number)
		a.Add("one")
		b.Add("another")
		a.Add(" more")
		same(t, k, "one more", a.Value(), k.call("one more"))
		same(t, k, "another", b.Value(), k.call("another"))
		same(t, k, "a new one", sums.New(k.number).Value(), 0)
	}
}

// Sums of all kinds that are added to in turns do not see each other.
func TestKindsInTurns(t *testing.T) {
	r := numbers(35)
	var row []*sums.Sum
	var texts []strings.Builder
	for _, k := range kinds() {
		row = append(row, sums.New(k.number), sums.New(k.number))
		texts = append(texts, strings.Builder{}, strings.Builder{})
	}
	for range 2000 {
		i, p := r.below(len(row)), r.text(r.below(6))
		row[i].Add(p)
		texts[i].WriteString(p)
	}
	for i, s := range row {
		k := kinds()[i/2]
		same(t, k, "its own pieces", s.Value(), k.model(texts[i].String()))
	}
}
