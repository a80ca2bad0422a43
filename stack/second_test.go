package stack_test

import (
	"math"
	"slices"
	"strings"
	"testing"

	"topiary/stack"
)

// The signatures that the chapter lists.
var (
	_ func(string, int) bool           = stack.Is
	_ func([]string, string, int) bool = stack.In
	_ func([]string, string) int       = stack.Implied
	_ func([]string, ...string) int    = stack.Until
)

// sorts are the chapter's words: the names of each sort, from 1 on.
var sorts = [...]string{
	1: "area, base, br, col, embed, hr, img, input, link, meta, param, source, track, wbr",
	2: "address, applet, area, article, aside, base, blockquote, body, br, button, caption, center, col, colgroup, dd, details, dir, div, dl, dt, embed, fieldset, figcaption, figure, footer, form, h1 to h6, head, header, hgroup, hr, html, iframe, img, input, li, link, main, marquee, menu, meta, nav, noembed, noframes, object, ol, p, param, pre, script, search, section, select, source, style, summary, table, tbody, td, textarea, tfoot, th, thead, title, tr, track, ul, wbr, xmp",
	3: "a, b, big, code, em, font, i, nobr, s, small, strike, strong, tt, u",
	4: "dd, dt, li, option, p, rp, rt",
	5: "h1 to h6",
	6: "address, article, aside, blockquote, center, details, dir, div, dl, fieldset, figcaption, figure, footer, form, header, hgroup, main, menu, nav, ol, pre, search, section, summary, ul",
	7: "applet, marquee, object",
	8: "base, link, meta, title, style, script, noframes",
}

// borders are the chapter's words: what is a border of all scopes, of 1 to 3, and of one more each.
const (
	always     = "html, table"
	oneToThree = "applet, caption, td, th, marquee, object"
	onlyTwo    = "ol, ul"
	onlyThree  = "button"
)

// strange are numbers that are no sort, and no scope.
var strange = []int{
	0, -1, -2, -3, -4, -8, 9, 10, 16, 100, 255, 256, 257, 258, 259, 260, -255, -252,
	math.MaxInt16, 1<<16 + 2, math.MaxInt32, math.MinInt32, 1<<31 + 2, 1<<32 + 1, 1<<32 + 2, 1<<32 + 3, 1<<32 + 4, -1<<32 + 4,
	math.MaxInt, math.MaxInt - 1, math.MinInt, math.MinInt + 1, math.MinInt + 2, math.MinInt + 3, math.MinInt + 4,
}

// list are the names of a row of the chapter's words.
func list(words string) []string {
	return strings.Split(strings.ReplaceAll(words, "h1 to h6", "h1, h2, h3, h4, h5, h6"), ", ")
}

// tables are, for each sort, its names.
func tables() [9]map[string]bool {
	var out [9]map[string]bool
	for sort := 1; sort <= 8; sort++ {
		out[sort] = map[string]bool{}
		for _, name := range list(sorts[sort]) {
			out[sort][name] = true
		}
	}
	return out
}

// all are all names that the chapter has, each once, by their bytes.
func all() []string {
	l := list(strings.Join([]string{always, oneToThree, onlyTwo, onlyThree}, ", "))
	for sort := 1; sort <= 8; sort++ {
		l = append(l, list(sorts[sort])...)
	}
	slices.Sort(l)
	return slices.Compact(l)
}

// unlisted are names of elements that are of no sort and no border.
func unlisted() []string {
	return strings.Fields("abbr acronym audio bdi bdo canvas cite data datalist del dfn dialog frame frameset image ins isindex kbd keygen label legend listing map mark math meter optgroup output picture plaintext progress q rb rtc ruby samp slot span sub sup svg template time var video x h0 h7 h8 h9 h h10")
}

// bordersOf are the borders of a scope.
func bordersOf(scope int) []string {
	l := list(always)
	if scope != 4 {
		l = append(l, list(oneToThree)...)
	}
	switch scope {
	case 2:
		l = append(l, list(onlyTwo)...)
	case 3:
		l = append(l, list(onlyThree)...)
	}
	return l
}

// secondIn is a second reading of the chapter's words: the innermost one of that name, and no border further in.
func secondIn(open []string, name string, scope int) bool {
	at := -1
	for i, o := range open {
		if o == name {
			at = i
		}
	}
	if at < 0 {
		return false
	}
	for _, b := range bordersOf(scope) {
		if slices.Contains(open[at+1:], b) {
			return false
		}
	}
	return true
}

// secondImplied is a second reading of the chapter's words: what is behind the last one that does not end by itself.
func secondImplied(open []string, but string) int {
	n := 0
	for _, o := range open {
		n++
		if o == but || !slices.Contains(list(sorts[4]), o) {
			n = 0
		}
	}
	return n
}

// secondUntil is a second reading of the chapter's words: of all elements of these names the innermost one.
func secondUntil(open []string, names []string) int {
	found := 0
	for _, name := range names {
		for i, o := range open {
			if o == name && (found == 0 || len(open)-i < found) {
				found = len(open) - i
			}
		}
	}
	return found
}

// few are names that may be told.
func few(l []string) []string { return l[:min(len(l), 20)] }

// roomy is a list with spare room in which something stands.
func roomy(l []string) []string {
	out := append(slices.Clone(l), "html", "p", "", "x")
	return out[:len(l):len(out)]
}

// wantIs holds Is against its answer.
func wantIs(t *testing.T, name string, sort int, want bool) {
	t.Helper()
	if stack.Is(name, sort) != want {
		t.Errorf("Is(%q, %d) is not %v", name, sort, want)
	}
}

// wantIn holds In against its answer, and what is handed in against what it was.
func wantIn(t *testing.T, open []string, name string, scope int, want bool) {
	t.Helper()
	was := slices.Clone(open[:cap(open)])
	if stack.In(open, name, scope) != want {
		t.Errorf("In(%q, %q, %d) is not %v", few(open), name, scope, want)
	}
	if !slices.Equal(open[:cap(open)], was) {
		t.Errorf("In changed what was handed in: %q to %q", few(was), few(open))
	}
}

// wantImplied holds Implied against its answer, and what is handed in against what it was.
func wantImplied(t *testing.T, open []string, but string, want int) {
	t.Helper()
	was := slices.Clone(open[:cap(open)])
	if got := stack.Implied(open, but); got != want {
		t.Errorf("Implied(%q, %q) = %d, want %d", few(open), but, got, want)
	}
	if !slices.Equal(open[:cap(open)], was) {
		t.Errorf("Implied changed what was handed in: %q to %q", few(was), few(open))
	}
}

// wantUntil holds Until against its answer, and both lists that are handed in against what they were.
func wantUntil(t *testing.T, open, names []string, want int) {
	t.Helper()
	was, wasNames := slices.Clone(open[:cap(open)]), slices.Clone(names[:cap(names)])
	if got := stack.Until(open, names...); got != want {
		t.Errorf("Until(%q, %q) = %d, want %d", few(open), few(names), got, want)
	}
	if !slices.Equal(open[:cap(open)], was) || !slices.Equal(names[:cap(names)], wasNames) {
		t.Errorf("Until changed what was handed in: %q to %q, %q to %q", few(was), few(open), few(wasNames), few(names))
	}
}

// rows says all lists of at most n of these names; each is new memory.
func rows(names []string, n int, say func([]string)) {
	for l := [][]string{nil}; ; n-- {
		var longer [][]string
		for _, row := range l {
			say(slices.Clone(row))
			for _, name := range names {
				longer = append(longer, append(slices.Clone(row), name))
			}
		}
		if n == 0 {
			return
		}
		l = longer
	}
}

// draw is the next of a row of numbers that look like drawn ones.
func draw(seed *uint64) uint64 {
	*seed = *seed*6364136223846793005 + 1442695040888963407
	return *seed >> 33
}

// drawn is a list of at most n of these names.
func drawn(seed *uint64, names []string, n uint64) []string {
	var l []string
	for range draw(seed) % (n + 1) {
		l = append(l, names[draw(seed)%uint64(len(names))])
	}
	return l
}
