package scan_test

import (
	"slices"
	"testing"

	"topiary/runes"
	"topiary/scan"
)

// wantCuts cuts a source at each place between two pieces at which no raw element is open, and holds the pieces of both against those of the whole. It answers how many such places there are.
func wantCuts(t *testing.T, s string) int {
	t.Helper()
	whole := scan.All(s)
	_, cuts := second(s)
	n := 0
	for at := range len(s) + 1 {
		a, b := s[:at], s[at:]
		// The places are those of the clean text: in a rune, or between the bytes 13 and 10, there is none.
		if runes.Clean(a)+runes.Clean(b) != runes.Clean(s) || !slices.Contains(cuts, len(runes.Clean(a))) {
			continue
		}
		n++
		ahead := scan.All(a)
		if got := slices.Concat(ahead[:len(ahead)-1], scan.All(b)); !same(got, whole) {
			t.Errorf("%q, %q: %v, and uncut %v", a, b, got, whole)
		}
	}
	return n
}

// P11.2: sources of which it is known at how many places they may be cut, both ends too.
func TestCutKnown(t *testing.T) {
	for s, want := range map[string]int{
		"":                                 1,
		"a":                                2,
		"ab":                               2,
		"a b":                              4,
		"<p>":                              2,
		"<p>a</p>":                         4,
		"a</>b":                            4,
		"<<p>":                             3,
		"</":                               3,
		"a<b c":                            3,
		"a\r\nb":                           4,
		"a\n\rb":                           4,
		"\xff\xff ":                        3,
		"ü <p>ü":                           5,
		"<!--a--><!doctype b>":             3,
		"<title>a b</title>":               2,
		"x<title>a b</title>y":             4,
		"<title></title><xmp><p></xmp><p>": 4,
		"<title>a</title":                  1,
		"<p></title>a":                     4,
		"&lt;&lt; &amp":                    4,
		"<p><script>a</script></script>":   4,
	} {
		if got := wantCuts(t, s); got != want {
			t.Errorf("%q was cut at %d places, want %d", s, got, want)
		}
	}
}

// P11.2: all sources of two parts, and drawn ones.
func TestCutDrawn(t *testing.T) {
	for _, a := range parts {
		for _, b := range parts {
			wantCuts(t, a+b)
		}
	}
	seed := uint64(12)
	for range 4000 {
		wantCuts(t, drawn(&seed))
	}
}

// P11.2: sources that end where their last piece does: each behind each one, and the pieces of both.
func TestCutClosed(t *testing.T) {
	for _, a := range closed() {
		for _, b := range append(closed(), is("x y", text("x"), text(" "), text("y")), is("<a"), is("<xmp>", start("xmp"))) {
			ahead := scan.All(a.s)
			if got := slices.Concat(ahead[:len(ahead)-1], scan.All(b.s)); !same(got, scan.All(a.s+b.s)) {
				t.Errorf("%q, %q: %v", a.s, b.s, got)
			}
		}
	}
}
