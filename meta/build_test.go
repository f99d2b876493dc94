package meta_test

import (
	"math"
	"slices"
	"strings"
	"testing"

	"lacquer/api"
	"lacquer/meta"
)

// Promise 13.3, of Build.

func TestExamplesOfBuild(t *testing.T) {
	for _, c := range []struct {
		l    []api.Block
		want string
	}{
		{[]api.Block{{Body: exampleText}}, "\x80\x00\x00\x22" + exampleText},
		{[]api.Block{{Body: exampleText}, {Type: 1, Body: "\x00\xff\x01\x80\x07"}}, "\x00\x00\x00\x22" + exampleText + "\x81\x00\x00\x05\x00\xff\x01\x80\x07"},
		{[]api.Block{{Body: exampleText}, {Type: 4}, {Type: 126, Body: "x"}}, "\x00\x00\x00\x22" + exampleText + "\x04\x00\x00\x00\xfe\x00\x00\x01x"},
	} {
		if s, e := meta.Build(c.l); s != c.want || e != api.OK {
			t.Errorf("Build(%s): %s %d", short(c.l), short(s), e)
		}
		builds(t, c.l)
	}
}

// wrong fails, unless Build of l answers ErrRecipe, and the model, too.
func wrong(t *testing.T, what string, l ...api.Block) {
	t.Helper()
	isBuild(t, what, l, api.ErrRecipe)
}

func TestListsThatMayNotBe(t *testing.T) {
	pad, comment := api.Block{Type: 1, Body: "p"}, api.Block{Type: 4, Body: "c"}
	wrong(t, "nothing")
	wrong(t, "a first one that is no STREAMINFO", pad)
	wrong(t, "a first one that is no STREAMINFO", pad, first())
	wrong(t, "a first one that is no STREAMINFO", comment, first())
	wrong(t, "two STREAMINFO", first(), first())
	wrong(t, "two STREAMINFO", first(), pad, first(), pad)
	wrong(t, "two of type 4", first(), comment, comment)
	wrong(t, "two of type 4", first(), comment, pad, comment)
	wrong(t, "nought", api.Block{})
	wrong(t, "nought behind", first(), api.Block{})
	isBuild(t, "one of type 4", []api.Block{first(), comment, pad, pad}, api.OK)
	for _, c := range edgesOfInfo() {
		want := api.OK
		if c.want != api.OK {
			want = api.ErrRecipe
		}
		b := api.Block{Body: infoText(with(partOf(c.name), c.n))}
		isBuild(t, c.name, []api.Block{b}, want)
		isBuild(t, c.name, []api.Block{b, pad}, want)
	}
}

func TestBuildOfEachType(t *testing.T) {
	for n := -140; n <= 300; n++ {
		b := api.Block{Type: n, Body: right(n)}
		want := api.OK
		if n < 1 || n > 126 {
			want = api.ErrRecipe
		}
		isBuild(t, "a type at the end", []api.Block{first(), b}, want)
		isBuild(t, "a type in the middle", []api.Block{first(), b, {Type: 1}}, want)
		if n != 0 {
			wrong(t, "a type in front", b)
			wrong(t, "a type in front", b, first())
			wrong(t, "a type in front, with STREAMINFO's Body", api.Block{Type: n, Body: exampleText})
		}
	}
	for _, n := range []int{math.MinInt, math.MaxInt, 256 + 1, 1<<32 + 1, -255, -127} {
		wrong(t, "a type far off", first(), api.Block{Type: n})
	}
	wrong(t, "a type that is 0 in its lowest bits", api.Block{Type: 256, Body: exampleText})
	wrong(t, "a type that is 0 in its lowest bits", api.Block{Type: 128, Body: exampleText})
}

func TestBuildOfWrongBodies(t *testing.T) {
	r := numbers(1335)
	for _, b := range []api.Block{
		{Type: 2, Body: "abc"},
		{Type: 3, Body: strings.Repeat("s", 17)},
		{Type: 5, Body: r.cueSheet()},
		{Type: 5, Body: r.cueSheet(1) + "x"},
		{Type: 5, Body: r.cueSheet(make([]int, 101)...)},
		{Type: 6, Body: r.picture(1, 2, 3) + "x"},
		{Type: 6, Body: r.picture(1, 2, 3)[:37]},
		{Type: 6},
	} {
		wrong(t, "a wrong Body", first(), b)
		wrong(t, "a wrong Body in the middle", first(), b, api.Block{Type: 1})
		wrong(t, "a wrong Body behind", first(), api.Block{Type: 1}, b)
	}
	for n := range 40 {
		want := api.ErrRecipe
		if n == 34 {
			want = api.OK
		}
		isBuild(t, "a STREAMINFO of some bytes", []api.Block{{Body: (exampleText + exampleText)[:n]}}, want)
	}
}

func TestBuildOfLongBodies(t *testing.T) {
	long := strings.Repeat("\x00", 1<<24+2)
	for _, n := range []int{255, 256, 65536, 1<<24 - 2, 1<<24 - 1} {
		isBuild(t, "a long Body", []api.Block{first(), {Type: 1, Body: long[:n]}, {Type: 2, Body: long[:max(n, 4)]}}, api.OK)
	}
	for _, n := range []int{1 << 24, 1<<24 + 1} {
		wrong(t, "a Body too long", first(), api.Block{Type: 1, Body: long[:n]})
		wrong(t, "a Body too long", first(), api.Block{Type: 7, Body: long[:n]}, api.Block{Type: 1})
		wrong(t, "a STREAMINFO too long", api.Block{Body: long[:n]})
	}
}

func TestBuildOfManyBlocks(t *testing.T) {
	for _, n := range []int{1, 2, 1023, 1024} {
		isBuild(t, "as many as can be", many(n), api.OK)
	}
	for _, n := range []int{1025, 1026, 5000} {
		wrong(t, "too many", many(n)...)
	}
	l := many(1024)
	l[1023] = api.Block{Type: 127}
	wrong(t, "a wrong one at the end", l...)
	l[1023] = api.Block{Type: 4}
	isBuild(t, "one of type 4 at the end", l, api.OK)
	l[500] = api.Block{Type: 4}
	wrong(t, "two of type 4", l...)
}

// Lists that may be, and what comes of them by one change: Build answers ErrRecipe for just those that Parse would not tell.
func TestBuildOfAnyLists(t *testing.T) {
	r := numbers(1336)
	seen := map[api.Errno]int{}
	for range 20000 {
		l := r.blocks(5)
		if e := builds(t, l); e != api.OK {
			t.Fatalf("%s: %d", short(l), e)
		}
		at := r.below(len(l))
		switch r.below(6) {
		case 0:
			l = slices.Delete(l, at, at+1)
		case 1:
			l = slices.Insert(l, at, r.block())
		case 2:
			l = append(l, r.block())
		case 3:
			l[at].Type = r.below(140) - 6
		case 4:
			l[at].Body = l[at].Body[:r.below(len(l[at].Body)+1)]
		case 5:
			other := r.below(len(l))
			l[at], l[other] = l[other], l[at]
		}
		seen[builds(t, l)]++
	}
	if seen[api.OK] < 3000 || seen[api.ErrRecipe] < 3000 {
		t.Errorf("errors were seen so often: %v", seen)
	}
}
