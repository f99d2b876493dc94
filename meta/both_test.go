package meta_test

import (
	"slices"
	"testing"

	"lacquer/api"
	"lacquer/meta"
)

// Promise 13.4, and T7 of metadata.

// comesOut fails, unless Parse tells l of what Build makes of it, whatever stands behind; it says whether Build makes anything.
func comesOut(t *testing.T, l []api.Block, behind string) bool {
	t.Helper()
	s, e := meta.Build(l)
	if e != api.OK {
		return false
	}
	m, n, e := meta.Parse(s + behind)
	if e != api.OK || n != len(s) || !slices.Equal(l, m) {
		t.Fatalf("%s became %s, %d of %d bytes, error %d", short(l), short(m), n, len(s), e)
	}
	return true
}

// comesBack fails, unless Build of what Parse tells of s is the bytes that it used; it says whether Parse tells anything.
func comesBack(t *testing.T, s string) bool {
	t.Helper()
	l, n, e := meta.Parse(s)
	if e != api.OK {
		return false
	}
	if u, e := meta.Build(l); e != api.OK || u != s[:n] {
		t.Fatalf("%s became %s, error %d", short(s), short(u), e)
	}
	for _, b := range l {
		if e := meta.Check(b); e != api.OK {
			t.Fatalf("%s is told, and Check answers %d", short(b), e)
		}
	}
	return true
}

// infoComesBack fails, unless LayInfo of what Info tells of s is s; it says whether Info tells anything.
func infoComesBack(t *testing.T, s string) bool {
	t.Helper()
	i, e := meta.Info(s)
	if e != api.OK {
		return false
	}
	if u, e := meta.LayInfo(i); e != api.OK || u != s {
		t.Fatalf("%s became %s, error %d", short(s), short(u), e)
	}
	return true
}

func TestBlocksComeBack(t *testing.T) {
	r := numbers(1341)
	taken := 0
	for range 5000 {
		l := r.blocks(6)
		s := text(l...)
		if !comesOut(t, l, r.text(r.below(20))) || !comesOut(t, l, s) || !comesBack(t, s+r.text(r.below(20))) {
			t.Fatalf("%s is not taken", short(l))
		}
		for range 4 {
			if comesBack(t, swapped(s, r.below(len(s)), r.text(1))+r.text(r.below(20))) {
				taken++
			}
		}
	}
	if taken < 3000 {
		t.Errorf("only %d changed texts were taken", taken)
	}
	for _, n := range []int{1, 2, 1023, 1024} {
		if !comesOut(t, many(n), "x") || !comesBack(t, text(many(n)...)+"x") {
			t.Errorf("%d blocks are not taken", n)
		}
	}
	if comesOut(t, many(1025), "") || comesBack(t, text(many(1025)...)) || comesOut(t, nil, "") || comesBack(t, "") {
		t.Error("too many or too few blocks are taken")
	}
}

func TestInfosComeBack(t *testing.T) {
	r := numbers(1342)
	taken := 0
	for range 20000 {
		i := r.info()
		s, e := meta.LayInfo(i)
		j, f := meta.Info(s)
		if e != api.OK || f != api.OK || i != j || !infoComesBack(t, s) {
			t.Fatalf("%s became %s, errors %d, %d", short(i), short(j), e, f)
		}
		if infoComesBack(t, swapped(s, r.below(34), r.text(1))) {
			taken++
		}
	}
	if taken < 5000 {
		t.Errorf("only %d changed texts were taken", taken)
	}
}

// FuzzParse looks for texts that are answered otherwise than the chapter says, or that do not come back.
func FuzzParse(f *testing.F) {
	r := numbers(1343)
	f.Add("", "")
	f.Add(text(first()), exampleText)
	for range 30 {
		l := r.blocks(4)
		f.Add(text(l...), l[len(l)-1].Body)
	}
	f.Fuzz(func(t *testing.T, s, body string) {
		parses(t, s)
		comesBack(t, s)
		isInfo(t, body)
		infoComesBack(t, body)
		for blockType := -1; blockType <= 8; blockType++ {
			l := []api.Block{first(), {Type: blockType, Body: body}, {Type: 4, Body: s}}
			checks(t, l[1])
			builds(t, l)
			builds(t, l[:2])
			builds(t, l[1:])
			comesOut(t, l, s)
		}
	})
}
