package stack_test

import (
	"slices"
	"strings"
	"testing"

	"topiary/stack"
)

// P12.3: Implied of no open elements, of some, with but and without.
func TestImplied(t *testing.T) {
	for _, x := range []struct {
		open, but string
		want      int
	}{
		{"", "", 0}, {"", "p", 0}, {"p", "", 1}, {"p", "p", 0}, {"p", "li", 1}, {"p", "b", 1}, {"p", "P", 1}, {"P", "", 0},
		{"b", "", 0}, {"b", "b", 0}, {"html", "", 0},
		{"p p p", "", 3}, {"p p p", "p", 0}, {"p p p", "dd", 3},
		{"html body ul li p", "", 2}, {"html body ul li p", "li", 1}, {"html body ul li p", "p", 0}, {"html body ul li p", "ul", 2},
		{"dd dt li option p rp rt", "", 7}, {"dd dt li option p rp rt", "dd", 6}, {"dd dt li option p rp rt", "option", 3}, {"dd dt li option p rp rt", "rt", 0}, {"dd dt li option p rp rt", "x", 7},
		{"li p b", "", 0}, {"li b p", "", 1}, {"li b p", "b", 1}, {"b li p", "", 2}, {"p b p b", "", 0}, {"p b p p", "", 2}, {"p p b p", "li", 1},
		{"li p li p", "li", 1}, {"p li p li", "li", 0}, {"option optgroup", "", 0}, {"option rb", "", 0}, {"option rtc rt", "", 1},
	} {
		wantImplied(t, strings.Fields(x.open), x.but, x.want)
	}
}

// P12.3: each name that the chapter has, and others: innermost, between, outermost; as but, and not.
func TestImpliedEach(t *testing.T) {
	ends := list(sorts[4])
	for _, name := range append(append(all(), unlisted()...), "", "LI", "li ", "l", "dd, dt", "\xff") {
		n := 0
		if slices.Contains(ends, name) {
			n = 1
		}
		wantImplied(t, []string{name}, "", n)
		wantImplied(t, []string{name}, name, 0)
		wantImplied(t, []string{name, name}, "", 2*n)
		wantImplied(t, []string{name, name}, name, 0)
		for _, end := range ends {
			wantImplied(t, []string{"html", end, name}, "", 2*n)
			wantImplied(t, []string{"html", name, end}, "", 1+n)
			wantImplied(t, []string{end, name, end}, "", 1+2*n)
			if end != name {
				wantImplied(t, []string{name, end}, name, 1)
				wantImplied(t, []string{end, name, end, end}, name, 2)
				wantImplied(t, []string{name}, end, n)
				wantImplied(t, []string{end, name}, end, n)
				wantImplied(t, []string{name, end}, end, 0)
			}
		}
	}
}

// P12.3: all short lists of some names, against the second reading.
func TestImpliedShort(t *testing.T) {
	rows([]string{"p", "li", "rt", "b", "html", ""}, 5, func(open []string) {
		for _, but := range []string{"", "p", "li", "b", "x"} {
			wantImplied(t, open, but, secondImplied(open, but))
		}
	})
}

// P12.3: drawn lists of all names, and of those that end by themselves, against the second reading.
func TestImpliedDrawn(t *testing.T) {
	names, ends := append(all(), ""), append(list(sorts[4]), "?")
	seed := uint64(123)
	for i := range 20000 {
		open := roomy(append(drawn(&seed, names, 10), drawn(&seed, ends, uint64(i%20))...))
		but := append(ends, "", "b")[draw(&seed)%uint64(len(ends)+2)]
		wantImplied(t, open, but, secondImplied(open, but))
	}
}

// P12.3: Until without names, with one, with several; of what is open never, once, more than once.
func TestUntil(t *testing.T) {
	for _, x := range []struct {
		open, names string
		want        int
	}{
		{"", "", 0}, {"", "p", 0}, {"", "p b", 0}, {"p", "", 0}, {"p b", "", 0},
		{"p", "p", 1}, {"p", "b", 0}, {"p", "P", 0}, {"P", "p", 0}, {"p", "p p", 1}, {"p", "b p", 1}, {"p", "p b", 1},
		{"html body p b", "b", 1}, {"html body p b", "p", 2}, {"html body p b", "body", 3}, {"html body p b", "html", 4}, {"html body p b", "i", 0},
		{"html body p b", "html b", 1}, {"html body p b", "b html", 1}, {"html body p b", "html body", 3}, {"html body p b", "i u html", 4}, {"html body p b", "i u s", 0},
		{"p p p", "p", 1}, {"p b p i u", "p", 3}, {"p b p i u", "b p", 3}, {"p b p i u", "p b", 3}, {"p b p i u", "b", 4}, {"p b p i u", "p u", 1},
		// No border keeps it from looking on.
		{"p html table td ol button", "p", 6}, {"p html table td ol button", "p td", 3}, {"td table", "td th", 2},
		{"h1 b h3 i", "h1 h2 h3 h4 h5 h6", 2}, {"h1 b i", "h6 h5 h4 h3 h2 h1", 3},
	} {
		wantUntil(t, strings.Fields(x.open), strings.Fields(x.names), x.want)
	}
}

// P12.3: names are handed in one by one, or as a list.
func TestUntilVariadic(t *testing.T) {
	open := []string{"html", "table", "tbody", "tr"}
	none := []string(nil)
	for _, x := range []struct{ got, want int }{
		{stack.Until(open), 0},
		{stack.Until(open, "tr"), 1},
		{stack.Until(open, "tbody", "tfoot"), 2},
		{stack.Until(open, "x", "table", "html"), 3},
		{stack.Until(open, []string{"html"}...), 4},
		{stack.Until(open, none...), 0},
		{stack.Until(nil, open...), 0},
		{stack.Until(open, open...), 1},
		{stack.Until(open[:3], open[:2]...), 2},
		{stack.Until(open, "", " ", "TR", "html "), 0},
	} {
		if x.got != x.want {
			t.Errorf("Until says %d, want %d", x.got, x.want)
		}
	}
}

// P12.3: the empty name, and names that are no text, are names as others.
func TestUntilStrange(t *testing.T) {
	open := []string{"", "b", "\xff", "é", "p\x00"}
	for i, name := range open {
		wantUntil(t, open, []string{name}, len(open)-i)
		wantUntil(t, open, []string{"x", name, name}, len(open)-i)
	}
	wantUntil(t, open, []string{"p", "\xfe", "\ufffd", "e", " "}, 0)
	wantUntil(t, []string{"b"}, []string{""}, 0)
	wantUntil(t, []string{"p,b"}, []string{"p", "b"}, 0)
	wantUntil(t, []string{"p", "b"}, []string{"p,b", "pb", "p b"}, 0)
}

// P12.3: each name that the chapter has, wherever it stands.
func TestUntilEach(t *testing.T) {
	open := all()
	for i, name := range open {
		wantUntil(t, open, []string{name}, len(open)-i)
		wantUntil(t, open, []string{open[0], name}, len(open)-i)
		wantUntil(t, open, []string{name, name + "x", "x" + name}, len(open)-i)
		wantUntil(t, open[i:], []string{name}, len(open)-i)
		wantUntil(t, open[:i], []string{name}, 0)
		wantUntil(t, open[:i+1], []string{name}, 1)
		wantUntil(t, open, []string{strings.ToUpper(name)}, 0)
	}
}

// P12.3: all short lists, with all short lists of names, against the second reading.
func TestUntilShort(t *testing.T) {
	names := []string{"p", "b", "html", ""}
	rows(names, 4, func(open []string) {
		rows(append(names, "x"), 3, func(l []string) {
			wantUntil(t, open, l, secondUntil(open, l))
		})
	})
}

// P12.3: drawn lists, against the second reading.
func TestUntilDrawn(t *testing.T) {
	names := append(append(all(), unlisted()...), "")
	seed := uint64(1234)
	for i := range 20000 {
		open, l := roomy(drawn(&seed, names, uint64(i%100))), roomy(drawn(&seed, names, uint64(i%8)))
		wantUntil(t, open, l, secondUntil(open, l))
	}
}

// P12.3: many open elements.
func TestCountLong(t *testing.T) {
	const n = 1 << 20
	open := slices.Repeat([]string{"p", "li"}, n/2)
	wantImplied(t, open, "", n)
	wantImplied(t, open, "p", 1)
	wantImplied(t, open, "li", 0)
	open[0] = "html"
	wantImplied(t, open, "b", n-1)
	wantUntil(t, open, []string{"x", "html", "b"}, n)
	wantUntil(t, open, []string{"x"}, 0)
	wantUntil(t, open, []string{"p"}, 2)
	wantUntil(t, []string{"html", "p"}, open, 1)
}

// P12.3: nil and an empty list are one (R3); a list's spare room is none of it.
func TestCountRoom(t *testing.T) {
	wantImplied(t, []string{}, "", 0)
	wantImplied(t, []string{"p"}[:0], "", 0)
	wantImplied(t, []string{"p", "p"}[:1], "", 1)
	wantImplied(t, []string{"p", "b"}[:1], "", 1)
	wantUntil(t, []string{}, []string{}, 0)
	wantUntil(t, []string{"p"}[:0], []string{"p"}, 0)
	wantUntil(t, []string{"p"}, []string{"p"}[:0], 0)
	wantUntil(t, []string{"p", "b"}[:1], []string{"i", "b"}, 0)
	wantUntil(t, []string{"p", "b"}, []string{"p", "b"}[:1], 2)
}
