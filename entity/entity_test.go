package entity_test

import (
	"html"
	"math"
	"strconv"
	"strings"
	"testing"

	"topiary/entity"
)

// The signatures that the chapter lists.
var (
	_ func(string) (string, bool)     = entity.Find
	_ func(string, int) (int, string) = entity.Longest
	_ func(int) rune                  = entity.Code
)

// The chapter's words: names, and their signs in hexadecimal.
const (
	eitherWay = "amp 26, lt 3c, gt 3e, quot 22, AMP 26, LT 3c, GT 3e, nbsp a0, cent a2, pound a3, yen a5, sect a7, copy a9, not ac, reg ae, deg b0, plusmn b1, para b6, middot b7, frac12 bd, Auml c4, times d7, Ouml d6, Uuml dc, szlig df, aacute e1, auml e4, egrave e8, eacute e9, ouml f6, divide f7, uuml fc"
	endedOnly = "apos 27, trade 2122, hellip 2026, mdash 2014, ndash 2013, lsquo 2018, rsquo 2019, ldquo 201c, rdquo 201d, bull 2022, euro 20ac, alpha 3b1, beta 3b2, pi 3c0, infin 221e, notin 2209, notni 220c, ne 2260, le 2264, ge 2265, fjlig 66 6a"
)

// The same signs, in the same order, as one sees them (but for the a0).
const (
	eitherSigns = "&<>\"&<>\u00a0¢£¥§©¬®°±¶·½Ä×ÖÜßáäèéö÷ü"
	endedSigns  = "'™…—–‘’“”•€αβπ∞∉∌≠≤≥fj"
)

// word is a name without its `;`.
type word struct {
	name  string
	signs string
	bare  bool // a name without its `;` too
}

// wordsOf are the words of one of the chapter's lists.
func wordsOf(t testing.TB, list string, bare bool) []word {
	t.Helper()
	var l []word
	for _, row := range strings.Split(list, ", ") {
		fields := strings.Fields(row)
		w := word{name: fields[0], bare: bare}
		for _, f := range fields[1:] {
			n, err := strconv.ParseUint(f, 16, 21)
			if err != nil {
				t.Fatal("the test's own list:", row)
			}
			w.signs += string(rune(n))
		}
		l = append(l, w)
	}
	return l
}

// words are all words of the chapter.
func words(t testing.TB) []word {
	t.Helper()
	return append(wordsOf(t, eitherWay, true), wordsOf(t, endedOnly, false)...)
}

// known are all names, with their `;` if they have one, and their signs.
func known(t testing.TB) map[string]string {
	t.Helper()
	m := map[string]string{}
	for _, w := range words(t) {
		m[w.name+";"] = w.signs
		if w.bare {
			m[w.name] = w.signs
		}
	}
	return m
}

// sayFind holds Find of a name against what is known.
func sayFind(t *testing.T, known map[string]string, name string) {
	t.Helper()
	want, is := known[name]
	if got, ok := entity.Find(name); got != want || ok != is {
		t.Errorf("Find(%q) = %q, %t, want %q, %t", name, got, ok, want, is)
	}
}

// longestOf is the longest of the known names with which a text begins, and its signs: each of them is looked at.
func longestOf(known map[string]string, s string) (int, string) {
	n, signs := 0, ""
	for name, of := range known {
		if len(name) > n && strings.HasPrefix(s, name) {
			n, signs = len(name), of
		}
	}
	return n, signs
}

// sayLongest holds Longest of a text, from each place and from some that are none, against what is known.
func sayLongest(t *testing.T, known map[string]string, s string) {
	t.Helper()
	for at := range len(s) + 1 {
		want, signs := longestOf(known, s[at:])
		wantLongest(t, s, at, want, signs)
	}
	for _, at := range []int{-1, len(s) + 1} {
		wantLongest(t, s, at, 0, "")
	}
}

// wantLongest holds Longest against its answer.
func wantLongest(t *testing.T, s string, at, want int, signs string) {
	t.Helper()
	if n, got := entity.Longest(s, at); n != want || got != signs {
		t.Errorf("Longest(%q, %d) = %d, %q, want %d, %q", s, at, n, got, want, signs)
	}
}

// P8.1: what the tests know of the chapter: how many names there are, and their signs as one sees them.
func TestOwnLists(t *testing.T) {
	if n := len(known(t)); n != 2*32+21 {
		t.Error("names:", n)
	}
	for list, want := range map[string]string{eitherWay: eitherSigns, endedOnly: endedSigns} {
		got := ""
		for _, w := range wordsOf(t, list, true) {
			got += w.signs
		}
		if got != want {
			t.Errorf("signs: %q, want %q", got, want)
		}
	}
}

// P8.1: each name, with its `;` and without it; those with `;` alone are none without it.
func TestFind(t *testing.T) {
	for _, w := range words(t) {
		if got, ok := entity.Find(w.name + ";"); got != w.signs || !ok {
			t.Errorf("Find(%q) = %q, %t, want %q", w.name+";", got, ok, w.signs)
		}
		want := w.signs
		if !w.bare {
			want = ""
		}
		if got, ok := entity.Find(w.name); got != want || ok != w.bare {
			t.Errorf("Find(%q) = %q, %t, want %q, %t", w.name, got, ok, want, w.bare)
		}
	}
}

// P8.1: some names' signs, by their bytes.
func TestFindBytes(t *testing.T) {
	for name, want := range map[string]string{
		"amp": "\x26", "apos;": "\x27", "nbsp": "\xc2\xa0", "uuml;": "\xc3\xbc", "szlig": "\xc3\x9f",
		"alpha;": "\xce\xb1", "pi;": "\xcf\x80", "trade;": "\xe2\x84\xa2", "euro;": "\xe2\x82\xac", "ge;": "\xe2\x89\xa5",
		"fjlig;": "\x66\x6a",
	} {
		if got, ok := entity.Find(name); got != want || !ok {
			t.Errorf("Find(%q) = %x, %t, want %x", name, got, ok, want)
		}
	}
}

// P8.1: each name's signs, as the library knows them from the web's own list.
func TestFindAsTheWeb(t *testing.T) {
	for _, w := range words(t) {
		for _, name := range []string{w.name, w.name + ";"} {
			if got, ok := entity.Find(name); ok && got != html.UnescapeString("&"+name) {
				t.Errorf("Find(%q) = %q", name, got)
			}
		}
	}
}

// P8.1: what is no name: nothing, a `;` alone, another case, something ahead, behind or within.
func TestFindNone(t *testing.T) {
	for _, name := range []string{
		"", ";", ";;", " ", "&", "&amp", "&amp;", "amp&", "amp;;", ";amp", ";amp;", "amp ;", "amp ", " amp", "am p", "a;mp", "amp;a", "amp\x00", "\x00amp",
		"Amp", "aMP;", "AMp", "Lt", "lT;", "QUOT", "QUOT;", "NBSP;", "COPY", "REG;", "AUML", "AUML;", "aUml", "Szlig", "SZLIG;", "Eacute;", "FRAC12", "TRADE;", "PI;", "Pi;", "EURO;", "Alpha;",
		"apos", "trade", "notin", "notni", "ne", "le", "ge", "pi", "fjlig", "euro", "hellip",
		"am", "no", "noti", "noti;", "notit", "frac1", "frac", "frac13", "frac14;", "frac2;", "eacut", "f", "fj", "fj;", "ﬁ;", "26", "x26;", "#38;", "eth;", "iuml;", "larr;",
		"amp\uff1b", "\u0430mp;", "amp;\xff", "\xff", strings.Repeat("amp;", 1000), strings.Repeat(";", 1000),
	} {
		if got, ok := entity.Find(name); got != "" || ok {
			t.Errorf("Find(%q) = %q, %t", name, got, ok)
		}
	}
}

// P8.1: each name in all small letters, all great ones, and with its first letter in the other case.
func TestFindCases(t *testing.T) {
	names := known(t)
	for name := range names {
		turned := string(name[0]^32) + name[1:]
		for _, other := range []string{strings.ToLower(name), strings.ToUpper(name), turned} {
			sayFind(t, names, other)
		}
	}
}

// P8.1: each name with a byte ahead of it, behind it or within it, with another byte in a byte's place, and with a byte gone.
func TestFindNear(t *testing.T) {
	names := known(t)
	for name := range names {
		for at := range len(name) + 1 {
			for c := range 256 {
				put := string([]byte{byte(c)})
				sayFind(t, names, name[:at]+put+name[at:])
				if at < len(name) {
					sayFind(t, names, name[:at]+put+name[at+1:])
				}
			}
			if at < len(name) {
				sayFind(t, names, name[:at]+name[at+1:])
				sayFind(t, names, name[:at])
				sayFind(t, names, name[at:])
			}
		}
	}
}

// P8.1: all texts of up to two bytes, and of up to three of the letters that the short names have.
func TestFindShort(t *testing.T) {
	names := known(t)
	sayFind(t, names, "")
	for i := range 256 {
		sayFind(t, names, string([]byte{byte(i)}))
		for k := range 256 {
			sayFind(t, names, string([]byte{byte(i), byte(k)}))
		}
	}
	const letters = ";aegilmnoprtyAGLMPT&"
	for _, a := range letters {
		for _, b := range letters {
			for _, c := range letters {
				sayFind(t, names, string([]rune{a, b, c}))
			}
		}
	}
}

// P8.1: the chapter's examples, names that begin alike, names with something behind them, from the text's beginning and from further on.
func TestLongest(t *testing.T) {
	for _, x := range []struct {
		s     string
		at    int
		want  int
		signs string
	}{
		{"notit;", 0, 3, "\u00ac"},
		{"notin;", 0, 6, "∉"},
		{"notni;", 0, 6, "∌"},
		{"notin", 0, 3, "¬"},
		{"notni", 0, 3, "¬"},
		{"notn", 0, 3, "¬"},
		{"not;", 0, 4, "¬"},
		{"not;in;", 0, 4, "¬"},
		{"notin ;", 0, 3, "¬"},
		{"notni;;", 0, 6, "∌"},
		{"notnotin;", 0, 3, "¬"},
		{"notnotin;", 3, 6, "∉"},
		{"no", 0, 0, ""},
		{"Notin;", 0, 0, ""},
		{"amp", 0, 3, "&"},
		{"amp;", 0, 4, "&"},
		{"amp;;", 0, 4, "&"},
		{"ampx", 0, 3, "&"},
		{"amp;lt;", 0, 4, "&"},
		{"amplt;", 0, 3, "&"},
		{"amplt;", 3, 3, "<"},
		{"&amp;", 0, 0, ""},
		{"&amp;", 1, 4, "&"},
		{"&ampx", 1, 3, "&"},
		{"&amp;", 2, 0, ""},
		{"&amp;", 4, 0, ""},
		{"&amp;", 5, 0, ""},
		{" amp", 0, 0, ""},
		{" amp", 1, 3, "&"},
		{"frac12", 0, 6, "½"},
		{"frac12;", 0, 7, "½"},
		{"frac123", 0, 6, "½"},
		{"frac1", 0, 0, ""},
		{"fjlig;", 0, 6, "fj"},
		{"fjlig", 0, 0, ""},
		{"fjligx;", 0, 0, ""},
		{"x fjlig;fjlig;", 8, 6, "fj"},
		{"ne;", 0, 3, "≠"},
		{"ne", 0, 0, ""},
		{"nets", 0, 0, ""},
		{"lt", 0, 2, "<"},
		{"l", 0, 0, ""},
		{"hellip", 0, 0, ""},
		{"hellip;", 0, 7, "…"},
		{"ü&uuml;ü", 3, 5, "ü"},
		{"\xff\xffreg\xff", 2, 3, "®"},
		{"", 0, 0, ""},
		{";", 0, 0, ""},
		{";", 1, 0, ""},
		{"amp", 3, 0, ""},
	} {
		wantLongest(t, x.s, x.at, x.want, x.signs)
		wantLongest(t, x.s, x.at, x.want, x.signs)
	}
}

// P8.1: each name with nothing, a `;`, a letter, a digit and any other byte behind it, at the beginning and further on.
func TestLongestOfEach(t *testing.T) {
	names := known(t)
	for _, w := range words(t) {
		ended, bare, signs := len(w.name)+1, len(w.name), w.signs
		if !w.bare {
			bare, signs = 0, ""
			if strings.HasPrefix(w.name, "not") {
				bare, signs = 3, "¬"
			}
		}
		for _, ahead := range []string{"", "&", "x", ";", "amp", "amp;", "ü", "\xff", strings.Repeat("not", 3000)} {
			at := len(ahead)
			wantLongest(t, ahead+w.name, at, bare, signs)
			wantLongest(t, ahead+w.name+";", at, ended, w.signs)
			for _, behind := range []string{" ", "a", "Z", "1", "=", "&", "ü", "\x00", "\xff", strings.Repeat("z", 9000)} {
				wantLongest(t, ahead+w.name+behind, at, bare, signs)
				wantLongest(t, ahead+w.name+";"+behind, at, ended, w.signs)
			}
		}
		for c := range 256 {
			sayLongest(t, names, w.name+string([]byte{byte(c)})+";")
		}
	}
}

// P8.1: each name with another one behind it, from each place.
func TestLongestOfPairs(t *testing.T) {
	names := known(t)
	for a := range names {
		for b := range names {
			sayLongest(t, names, a+b)
		}
	}
}

// P8.1: each beginning of each name, which is none or a shorter one.
func TestLongestOfCut(t *testing.T) {
	names := known(t)
	for name := range names {
		for n := range len(name) + 1 {
			sayLongest(t, names, name[:n])
			sayLongest(t, names, name[:n]+";")
			sayLongest(t, names, name[:n]+"z;")
		}
	}
}

// P8.1: what Find and Longest say of one text goes together.
func TestFindIsLongest(t *testing.T) {
	for name := range known(t) {
		signs, _ := entity.Find(name)
		wantLongest(t, name, 0, len(name), signs)
		wantLongest(t, "<p>"+name+"</p>", 3, len(name), signs)
	}
}

// P8.1: places that are none: below 0, beyond the end, and as far as an int goes.
func TestLongestNowhere(t *testing.T) {
	for _, s := range []string{"", ";", "lt", "amp", "amp;", "notin;amp;", strings.Repeat("amp;", 2000)} {
		wantLongest(t, s, len(s), 0, "")
		for _, far := range []int{1, 2, 3, 4, 7, 8, 100, 1 << 20, 1 << 31, 1 << 32} {
			wantLongest(t, s, -far, 0, "")
			wantLongest(t, s, len(s)+far, 0, "")
		}
		for _, at := range []int{math.MinInt, math.MinInt + 1, math.MinInt + len(s), math.MaxInt, math.MaxInt - 1, math.MaxInt - 6, math.MaxInt - 7, math.MaxInt - 8, math.MinInt32, math.MaxInt32} {
			wantLongest(t, s, at, 0, "")
		}
	}
}

// P8.1: texts that are made of pieces of names, from each place.
func TestLongestOfMany(t *testing.T) {
	names := known(t)
	pieces := []string{"not", "in", "ni", ";", ";", "n", "e", "l", "t", "am", "p", "i", "a", "uml", "frac", "12", "fj", "lig", "&", "amp", "A", "hell", "ip", "ü", "\xff"}
	seed := uint64(1)
	for n := range 400 {
		s := ""
		for range n % 40 {
			seed = seed*6364136223846793005 + 1442695040888963407
			s += pieces[int(seed>>33)%len(pieces)]
		}
		sayLongest(t, names, s)
	}
}
