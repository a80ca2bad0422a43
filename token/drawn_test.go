package token_test

import (
	"strings"
	"testing"
)

// P10.2, P10.3: all texts of up to five of the bytes that pieces are made of, against the second reading.
func TestNextAllShort(t *testing.T) {
	const signs = "<>/!-?=\"' aB&"
	var grow func(s string, more int)
	grow = func(s string, more int) {
		wantNext(t, s, 0, "", second(s, 0, ""))
		if more > 0 {
			for i := range signs {
				grow(s+signs[i:i+1], more-1)
			}
		}
	}
	grow("<", 4)
	grow("<a ", 4)
	grow("<!--", 4)
	grow("a", 3)
	grow(" ", 3)
}

// P10.2: all texts of up to six of the bytes that a raw element's end is made of, from each place, against the second reading.
func TestNextAllRaw(t *testing.T) {
	const signs = "</bB> x"
	var grow func(s string, more int)
	grow = func(s string, more int) {
		for at := range len(s) {
			wantNext(t, s, at, "b", second(s, at, "b"))
		}
		if more > 0 {
			for i := range signs {
				grow(s+signs[i:i+1], more-1)
			}
		}
	}
	grow("", 6)
}

// parts are what drawn sources are made of.
var parts = []string{
	"<", "</", "<!", "<?", "<!--", "-->", "--!>", "--!", "--", "-", "!", ">", "->", "/>", "/", "=", "\"", "'", " ", "\n", "\t", "\f", "\r", "a", "B", "title", "STYLE", "<p", "</p", "<Title>", "</title>", "</TITLE", "</style ", "<!doctype", "<!DocType ", "html", "b=c", " b='", "B=\"", " = ", "&lt;", "&notit", "&not;", "&#32;", "&amp=", "&", ";", "_", "\x00", "\xff", "ü", "]]>", "?", "1",
}

// P10.2, P10.3: drawn sources, from each place, with raw of each sort and without it, against the second reading.
func TestNextDrawn(t *testing.T) {
	seed := uint64(10)
	for range 4000 {
		var s strings.Builder
		for range 1 + draw(&seed)%14 {
			s.WriteString(parts[draw(&seed)%uint64(len(parts))])
		}
		wantSecond(t, s.String(), "title", "style", "P")
	}
}

// P10.2, P10.3: drawn tags, against the second reading.
func TestTagDrawn(t *testing.T) {
	seed := uint64(11)
	inside := []string{" ", " ", "\n", "/", "=", "=", "\"", "'", "b", "C", "d", "'e f'", "\"g>h\"", "<", "&lt;", "&ltx", "ü", "\xff", " b=1", " B=2", ">"}
	for range 40000 {
		s := []string{"<a", "</a", "<Q ", "<t/"}[draw(&seed)%4]
		for range draw(&seed) % 16 {
			s += inside[draw(&seed)%uint64(len(inside))]
		}
		s += ">"
		wantNext(t, s, 0, "", second(s, 0, ""))
	}
}

// P10.2: all bytes of a source belong to one piece each: from 0 on, each place behind is greater, up to the end, where it stays.
func TestNextGoesOn(t *testing.T) {
	seed := uint64(12)
	for range 2000 {
		var b strings.Builder
		for range draw(&seed) % 40 {
			b.WriteString(parts[draw(&seed)%uint64(len(parts))])
		}
		s := b.String()
		for _, raw := range []string{"", "title", "style", "a"} {
			for at := 0; at < len(s); {
				x := next(s, at, raw)
				if x.behind <= at || x.behind > len(s) {
					t.Fatalf("Next(%q, %d, %q): the place behind is %d", s, at, raw, x.behind)
				}
				at = x.behind
			}
		}
	}
}
