package entity_test

import (
	"html"
	"math"
	"strconv"
	"strings"
	"testing"
	"unicode/utf8"

	"topiary/entity"
)

// bad is the rune of what has none.
const bad = 0xfffd

// others are the chapter's words: the runes of 80 to 9f.
const others = "20ac, 81, 201a, 192, 201e, 2026, 2020, 2021, 2c6, 2030, 160, 2039, 152, 8d, 17d, 8f, 90, 2018, 2019, 201c, 201d, 2022, 2013, 2014, 2dc, 2122, 161, 203a, 153, 9d, 17e, 178"

// wantCode holds Code against its answer.
func wantCode(t *testing.T, n int, want rune) {
	t.Helper()
	if got := entity.Code(n); got != want {
		t.Errorf("Code(%#x) = %#x, want %#x", n, got, want)
	}
}

// otherCodes are the runes of 80 to 9f.
func otherCodes(t *testing.T) []rune {
	t.Helper()
	var l []rune
	for _, f := range strings.Split(others, ", ") {
		n, err := strconv.ParseUint(f, 16, 21)
		if err != nil {
			t.Fatal("the test's own list:", f)
		}
		l = append(l, rune(n))
	}
	if len(l) != 32 {
		t.Fatal("the test's own list:", len(l))
	}
	return l
}

// P8.2: the edges that the chapter names, and their neighbours.
func TestCode(t *testing.T) {
	for n, want := range map[int]rune{
		-1: bad, 0: bad, 1: 1, 9: 9, 10: 10, 13: 13, 'a': 'a', 0x7e: 0x7e, 0x7f: 0x7f,
		0x80: 0x20ac, 0x81: 0x81, 0x82: 0x201a, 0x8d: 0x8d, 0x8f: 0x8f, 0x90: 0x90, 0x9d: 0x9d, 0x9e: 0x17e, 0x9f: 0x178,
		0xa0: 0xa0, 0xa1: 0xa1, 0xff: 0xff, 0x100: 0x100, 0x180: 0x180, 0x20ac: 0x20ac,
		0xd7fe: 0xd7fe, 0xd7ff: 0xd7ff, 0xd800: bad, 0xd801: bad, 0xdbff: bad, 0xdc00: bad, 0xdffe: bad, 0xdfff: bad, 0xe000: 0xe000, 0xe001: 0xe001,
		0xfdd0: 0xfdd0, 0xfffc: 0xfffc, 0xfffd: 0xfffd, 0xfffe: 0xfffe, 0xffff: 0xffff, 0x10000: 0x10000, 0x1d800: 0x1d800, 0x1f333: 0x1f333,
		0x10fffe: 0x10fffe, 0x10ffff: 0x10ffff, 0x110000: bad, 0x110001: bad,
	} {
		wantCode(t, n, want)
	}
}

// P8.2: each of the 32 from 80 to 9f.
func TestCodeOfOthers(t *testing.T) {
	for i, want := range otherCodes(t) {
		wantCode(t, 0x80+i, want)
	}
}

// P8.2: numbers far away, those among them of which a part would be a rune.
func TestCodeOfFar(t *testing.T) {
	for _, n := range []int{
		math.MinInt, math.MinInt + 1, math.MinInt + 'a', math.MinInt + 0x80, math.MinInt32, math.MinInt32 - 1, math.MinInt32 + 'a',
		-0x110000, -0x10ffff, -0xe000, -0xdfff, -0xd800, -0x9f, -0x80, -0x7f, -'a', -2,
		0x200000, 1<<24 + 'a', math.MaxInt32 - 1, math.MaxInt32, math.MaxInt32 + 1, math.MaxUint32, math.MaxUint32 + 1,
		1<<32 + 'a', 1<<32 + 0x80, 1<<32 + 0x10ffff, 1<<40 + 'a', 1<<62 + 'a', math.MaxInt - 1, math.MaxInt,
	} {
		wantCode(t, n, bad)
	}
}

// P8.2: each number from below 0 to above 10ffff, by the chapter's words; all answers are runes.
func TestCodeOfEach(t *testing.T) {
	l := otherCodes(t)
	for n := -0x1000; n < 0x120000; n++ {
		want := rune(n)
		switch {
		case n <= 0, n > 0x10ffff, n/0x800 == 0x1b:
			want = bad
		case n/0x20 == 4:
			want = l[n%0x20]
		}
		got := entity.Code(n)
		if got != want || !utf8.ValidRune(got) {
			t.Fatalf("Code(%#x) = %#x, want %#x", n, got, want)
		}
	}
}

// P8.2: each number from 0 to above 10ffff, as the library knows it from the web's own list.
func TestCodeAsTheWeb(t *testing.T) {
	for n := range 0x110100 {
		if got := string(entity.Code(n)); got != html.UnescapeString("&#"+strconv.Itoa(n)+";") {
			t.Fatalf("Code(%#x) = %q", n, got)
		}
	}
}

// P8.2: what an answer is does not hang on what was asked before (R4).
func TestCodeAgain(t *testing.T) {
	for range 3 {
		wantCode(t, 0x80, 0x20ac)
		wantCode(t, 0x20ac, 0x20ac)
		wantCode(t, 0, bad)
		wantCode(t, 0x9f, 0x178)
	}
}
