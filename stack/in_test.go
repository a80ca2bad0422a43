package stack_test

import (
	"slices"
	"strings"
	"testing"

	"topiary/stack"
)

// P12.2: the chapter's example.
func TestInExample(t *testing.T) {
	open := []string{"html", "body", "p", "button"}
	wantIn(t, open, "p", 3, false)
	wantIn(t, open, "p", 1, true)
}

// P12.2: open elements of each sort, the answers as digits of the scopes in which the name is open.
func TestIn(t *testing.T) {
	for _, x := range []struct {
		open, name, scopes string
	}{
		{"", "p", ""}, {"", "html", ""}, {"", "", ""},
		{"p", "p", "1234"}, {"p", "b", ""}, {"p", "", ""}, {"p", "P", ""}, {"P", "p", ""},
		{"html", "html", "1234"}, {"html", "p", ""}, {"html body", "html", "1234"}, {"html body p", "body", "1234"},
		{"p html", "p", ""}, {"p html", "html", "1234"}, {"p table", "p", ""}, {"p table", "table", "1234"}, {"p table b", "table", "1234"},
		{"p td", "p", "4"}, {"p th", "p", "4"}, {"p caption", "p", "4"}, {"p applet", "p", "4"}, {"p marquee", "p", "4"}, {"p object", "p", "4"},
		{"p ol", "p", "134"}, {"p ul", "p", "134"}, {"p button", "p", "124"},
		{"p ol button", "p", "14"}, {"p button ul", "p", "14"}, {"p ol button td", "p", "4"}, {"p ol button td table", "p", ""},
		{"p select", "p", "1234"}, {"p body", "p", "1234"}, {"p tr", "p", "1234"}, {"p tbody", "p", "1234"}, {"p template", "p", "1234"}, {"p form div li dl menu dir", "p", "1234"},
		{"html table tr td p", "table", "4"}, {"html table tr td p", "tr", "4"}, {"html table tr td p", "td", "1234"}, {"html table tr td p", "p", "1234"}, {"html table tr td p", "html", ""},
		{"html body ul li p", "li", "1234"}, {"html body ul li p", "ul", "1234"}, {"html body ul li ul", "li", "134"}, {"html body button p", "button", "1234"},
		{"p table p", "p", "1234"}, {"p p table", "p", ""}, {"p td p", "p", "1234"}, {"button p button", "p", "124"}, {"button p button", "button", "1234"},
		{"html html", "html", "1234"}, {"td b td", "b", "4"}, {"td b td", "td", "1234"}, {"td table", "td", ""},
	} {
		open := strings.Fields(x.open)
		for scope := 1; scope <= 4; scope++ {
			wantIn(t, open, x.name, scope, strings.Contains(x.scopes, string(rune('0'+scope))))
		}
	}
}

// P12.2: each name that the chapter has, and others, in each scope, behind and ahead of the one that is looked for: a border hides what is outside of it, and nothing else does.
func TestInBorders(t *testing.T) {
	for scope := 1; scope <= 4; scope++ {
		l := bordersOf(scope)
		for _, name := range append(append(all(), unlisted()...), "", "TD", "HTML", "html ", "tableau", "tabl", "t", "td, th") {
			hides := slices.Contains(l, name)
			wantIn(t, []string{"?", name}, "?", scope, !hides)
			wantIn(t, []string{name, "?"}, "?", scope, true)
			wantIn(t, []string{"?", name, "b", "i"}, "?", scope, !hides)
			wantIn(t, []string{"?", "b", "i", name}, "?", scope, !hides)
			wantIn(t, []string{"?", name, "?"}, "?", scope, true)
			wantIn(t, []string{"?", name, name}, "?", scope, !hides)
			// That name itself, be it a border or not.
			wantIn(t, []string{name}, name, scope, true)
			wantIn(t, []string{"html", name}, name, scope, true)
			wantIn(t, []string{"table", name, "b"}, name, scope, true)
			wantIn(t, []string{name, "?"}, name, scope, true)
			for _, b := range l {
				wantIn(t, []string{name, b}, name, scope, name == b)
				wantIn(t, []string{name, b, name}, name, scope, true)
			}
		}
	}
}

// P12.2: how many borders each scope has.
func TestInCounts(t *testing.T) {
	for scope, want := range map[int]int{0: 8, 1: 8, 2: 10, 3: 9, 4: 2, 5: 8, -1: 8} {
		n := 0
		for _, name := range all() {
			if !stack.In([]string{"?", name}, "?", scope) {
				n++
			}
		}
		if n != want {
			t.Errorf("scope %d: %d borders, want %d", scope, n, want)
		}
	}
}

// P12.2: any other scope is as 1.
func TestInOtherScopes(t *testing.T) {
	l := bordersOf(1)
	for _, scope := range append([]int{5, 6, 7, 8}, strange...) {
		for _, name := range append(all(), "", "span") {
			wantIn(t, []string{"?", name}, "?", scope, !slices.Contains(l, name))
			wantIn(t, []string{name}, name, scope, true)
			wantIn(t, nil, name, scope, false)
		}
	}
}

// P12.2: all short lists of some names, against the second reading.
func TestInShort(t *testing.T) {
	names := []string{"html", "table", "td", "ol", "button", "p", "b", ""}
	rows(names, 4, func(open []string) {
		for _, name := range append(names, "x") {
			for scope := 0; scope <= 5; scope++ {
				wantIn(t, open, name, scope, secondIn(open, name, scope))
			}
		}
	})
}

// P12.2: drawn lists of all names, against the second reading.
func TestInDrawn(t *testing.T) {
	names := append(append(all(), unlisted()...), "")
	seed := uint64(12)
	for i := range 20000 {
		open := roomy(drawn(&seed, names, uint64(1+i%80)))
		name := names[draw(&seed)%uint64(len(names))]
		if len(open) > 0 && i%2 == 0 {
			name = open[draw(&seed)%uint64(len(open))]
		}
		for scope := 0; scope <= 5; scope++ {
			wantIn(t, open, name, scope, secondIn(open, name, scope))
		}
	}
}

// P12.2: many open elements: what is looked for is the outermost one, or there is none.
func TestInLong(t *testing.T) {
	open := slices.Repeat([]string{"b", "p", "ul", "button"}, 1<<18)
	open[0] = "html"
	wantIn(t, open, "html", 1, true)
	wantIn(t, open, "html", 2, false)
	wantIn(t, open, "html", 3, false)
	wantIn(t, open, "html", 4, true)
	wantIn(t, open, "x", 4, false)
	wantIn(t, open, "p", 2, false)
	wantIn(t, open, "p", 4, true)
}

// P12.2: nil and an empty list are one (R3); a list's spare room is none of it.
func TestInRoom(t *testing.T) {
	for scope := 0; scope <= 5; scope++ {
		wantIn(t, []string{}, "p", scope, false)
		wantIn(t, []string{"p"}[:0], "p", scope, false)
		wantIn(t, []string{"b", "p"}[:1], "p", scope, false)
		wantIn(t, []string{"p", "table"}[:1], "p", scope, true)
	}
}
