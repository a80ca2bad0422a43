package stack_test

import (
	"strings"
	"testing"

	"topiary/stack"
)

// P12.1: the chapter's names, as many as there are of each sort.
func TestIsCounts(t *testing.T) {
	for sort, want := range map[int]int{1: 14, 2: 74, 3: 14, 4: 7, 5: 6, 6: 25, 7: 3, 8: 7} {
		n := 0
		for _, name := range all() {
			if stack.Is(name, sort) {
				n++
			}
		}
		if n != want || len(tables()[sort]) != want || len(list(sorts[sort])) != want {
			t.Errorf("sort %d: %d names, want %d", sort, n, want)
		}
	}
}

// P12.1: each name that the chapter has, at each sort.
func TestIsEach(t *testing.T) {
	is := tables()
	for _, name := range all() {
		for sort := 1; sort <= 8; sort++ {
			wantIs(t, name, sort, is[sort][name])
		}
	}
}

// P12.1: some of each sort, and some that look alike but are of another one.
func TestIsSome(t *testing.T) {
	for _, x := range []struct {
		name  string
		sorts string // the digits of the sorts it is of
	}{
		{"area", "12"}, {"br", "12"}, {"wbr", "12"}, {"col", "12"}, {"param", "12"}, {"hr", "12"},
		{"base", "128"}, {"link", "128"}, {"meta", "128"},
		{"title", "28"}, {"style", "28"}, {"script", "28"}, {"noframes", "28"}, {"noembed", "2"}, {"head", "2"},
		{"a", "3"}, {"b", "3"}, {"nobr", "3"}, {"strike", "3"}, {"strong", "3"}, {"u", "3"},
		{"dd", "24"}, {"dt", "24"}, {"li", "24"}, {"p", "24"}, {"option", "4"}, {"rp", "4"}, {"rt", "4"}, {"rb", ""}, {"rtc", ""}, {"optgroup", ""},
		{"h1", "25"}, {"h2", "25"}, {"h3", "25"}, {"h4", "25"}, {"h5", "25"}, {"h6", "25"}, {"h0", ""}, {"h7", ""}, {"h", ""},
		{"address", "26"}, {"ul", "26"}, {"ol", "26"}, {"dl", "26"}, {"pre", "26"}, {"search", "26"}, {"form", "26"}, {"header", "26"}, {"hgroup", "26"},
		{"listing", ""}, {"plaintext", ""}, {"dialog", ""}, {"button", "2"}, {"table", "2"}, {"body", "2"}, {"html", "2"}, {"select", "2"}, {"xmp", "2"},
		{"applet", "27"}, {"marquee", "27"}, {"object", "27"}, {"template", ""}, {"td", "2"}, {"th", "2"}, {"caption", "2"},
		{"span", ""}, {"image", ""}, {"frameset", ""}, {"frame", ""}, {"ruby", ""}, {"", ""},
	} {
		for sort := 1; sort <= 8; sort++ {
			wantIs(t, x.name, sort, strings.Contains(x.sorts, string(rune('0'+sort))))
		}
	}
}

// P12.1: numbers that are no sort, of all names.
func TestIsOfNoSort(t *testing.T) {
	for _, sort := range strange {
		for _, name := range append(all(), "", "x", "span") {
			wantIs(t, name, sort, false)
		}
	}
	for sort := -300; sort < 600; sort++ {
		for _, name := range []string{"p", "base", "h1", "a", "object", ""} {
			wantIs(t, name, sort, sort >= 1 && sort <= 8 && tables()[sort][name])
		}
	}
}

// P12.1: names that the chapter does not list.
func TestIsUnlisted(t *testing.T) {
	for _, name := range append(unlisted(), "", " ", "\x00", "\xff", "\ufffd", "é", "p\xff", ", ", ",", "to", "h1 to h6", "void", "special", "format", "implied", "heading", "block", "marker") {
		for sort := 0; sort <= 9; sort++ {
			wantIs(t, name, sort, false)
		}
	}
}

// turned are texts that are nearly a name: with great letters, a sign more, a sign less, another sign, two names at once.
func turned(name string) []string {
	l := []string{
		strings.ToUpper(name), strings.ToUpper(name[:1]) + name[1:], name[:len(name)-1] + strings.ToUpper(name[len(name)-1:]),
		"<" + name + ">", "</" + name + ">", name + name, name + " " + name, name + ", " + name, name + strings.Repeat(" ", 1000),
	}
	for i := 0; i <= len(name); i++ {
		for _, sign := range []string{" ", "\n", "\x00", ",", "/", "-", "a", "e", "h", "r", "s", "t", "1", "6", "7", "\x80", "\xff", "é", "\u200b"} {
			l = append(l, name[:i]+sign+name[i:])
			if i < len(name) {
				l = append(l, name[:i]+sign+name[i+1:])
			}
		}
		if i < len(name) {
			l = append(l, name[:i]+name[i+1:], name[:i], name[i+1:])
		}
	}
	return l
}

// P12.1: names that are nearly another one are of a sort just if they are themselves listed there.
func TestIsNearly(t *testing.T) {
	is := tables()
	for _, name := range all() {
		for _, near := range turned(name) {
			for sort := 1; sort <= 8; sort++ {
				wantIs(t, near, sort, is[sort][near])
			}
		}
	}
}

// P12.1: two names of a sort, one behind the other, with what stands between names in a list.
func TestIsOfTwo(t *testing.T) {
	for sort := 1; sort <= 8; sort++ {
		l := list(sorts[sort])
		for i := range len(l) - 1 {
			for _, between := range []string{" ", ", ", ",", "\x00", "|"} {
				wantIs(t, l[i]+between+l[i+1], sort, false)
			}
		}
		wantIs(t, sorts[sort], sort, false)
	}
}

// P12.1: all names of at most three small letters and digits.
func TestIsShort(t *testing.T) {
	const signs = "abcdefghijklmnopqrstuvwxyz0123456789"
	is := tables()
	rows(strings.Split(signs, ""), 3, func(l []string) {
		name := strings.Join(l, "")
		for sort := 1; sort <= 8; sort++ {
			wantIs(t, name, sort, is[sort][name])
		}
	})
}

// P12.1: a very long name is of no sort.
func TestIsLong(t *testing.T) {
	for _, name := range []string{strings.Repeat("p", 1<<20), strings.Repeat("h1", 1<<20), "p" + strings.Repeat("\x00", 1<<20)} {
		for sort := 1; sort <= 8; sort++ {
			wantIs(t, name[:1<<20], sort, false)
		}
	}
}

// P12.1: what an answer is does not hang on what was asked before (R4).
func TestIsAgain(t *testing.T) {
	for range 3 {
		wantIs(t, "p", 4, true)
		wantIs(t, "p", 6, false)
		wantIs(t, "p", 9, false)
		wantIs(t, "ul", 6, true)
	}
}
