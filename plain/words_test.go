package plain_test

import (
	"strings"
	"testing"
	"unicode/utf8"

	"topiary/api"
	"topiary/parse"
	"topiary/plain"
)

// wantWords holds Words and Says of a text against what they should be.
func wantWords(t *testing.T, s string, words, says bool) {
	t.Helper()
	if got := plain.Words(s); got != words {
		t.Errorf("Words of %q is %v", short(s), got)
	}
	if got := plain.Says(s); got != says {
		t.Errorf("Says of %q is %v", short(s), got)
	}
}

// P17.1: texts that can stand in a source, and such as can't: bytes 0 and 13, and bytes that are no rune, at the beginning, in the midst, at the end.
func TestWords(t *testing.T) {
	for _, s := range []string{"", "a", " ", "\t\n\f ", "\n", "a\nb", "\x01\x0b\x0e\x1f\x7f", "ü€\U0001f333", "\u00a0", "\ufffd", "\ufeff", "\u2028", "\U0010ffff", "\ud7ff\ue000", "\ufffe\uffff", "<>&\"'", "&#0;", "&#13;", "\\r\\0", ofBytes(1 << 20)} {
		wantWords(t, s, true, true)
	}
	for _, bad := range []string{
		"\x00", "\r", "\r\n", "\n\r", "\x00\r",
		"\x80", "\xbf", "\xc3", "\xff", "\xfe", "\xe2\x82", "\xf0\x9f\x8c", "\xc3\x00",
		"\xc0\x80", "\xc1\xbf", "\xe0\x80\x80", "\xe0\x9f\xbf", "\xf0\x80\x80\x80", "\xf0\x8f\xbf\xbf",
		"\xed\xa0\x80", "\xed\xbf\xbf", "\xf4\x90\x80\x80", "\xf5\x80\x80\x80", "\xf8\x88\x80\x80\x80",
		"ü\xbc", "\xe2\x82€",
	} {
		for _, s := range []string{bad, bad + "a", "a" + bad, "a" + bad + "b", "€" + bad + "€", "\n" + bad + "\n", "\ufffd" + bad, bad + bad, ofBytes(5000) + bad, bad + ofBytes(5000)} {
			wantWords(t, s, false, false)
		}
	}
}

// P17.1: each byte and each two, alone and in the midst of a text.
func TestWordsEachByte(t *testing.T) {
	for a := range 256 {
		for b := range 256 {
			for _, s := range []string{string([]byte{byte(a)}), string([]byte{byte(a), byte(b)}), string([]byte{'x', byte(a), byte(b), 'y'})} {
				wantWords(t, s, secondWords(s), secondSays(s))
			}
		}
	}
}

// P17.1: each rune, and what is none: those in their shortest form are Words.
func TestWordsEachRune(t *testing.T) {
	for r := rune(0); r <= utf8.MaxRune; r++ {
		s := string(r)
		if got, want := plain.Words(s), r != 0 && r != '\r'; got != want {
			t.Fatalf("Words of %q is %v", s, got)
		}
	}
}

// P17.1: what a comment can say: no -- anywhere, no - at its end, no > and no -> at its beginning, but elsewhere.
func TestSays(t *testing.T) {
	for _, s := range []string{"a>", "a>b", "a->", "a->b", "-a", "-a>", "- >", "- ->", "a-b", "a-b-c", "!>", "-!>", "a!-b", "<!- ", "<!", "</a>", "<b>", "&gt;", "&#45;-a", " >", " ->", "\n>", "\n->", "\u2010-\u2010", "a - - b", "-\n", "=->", "<>"} {
		wantWords(t, s, true, true)
	}
	for _, s := range []string{"--", "---", "----", "--a", "a--", "a--b", "a---b", "--!", "a--!b", "a--!>", "--!>b", "-->", "a-->", "<!--", "<!--a", "a--b--c", ">", ">a", ">>", ">-", "->", "->a", "->>", "->-", "->->", "-", "a-", " -", "-\n-", "a -- b", "a-b-", "<!-", "ü-", "\n-", "--\x01", ofBytes(4000) + "--" + ofBytes(4000), ofBytes(4000) + "-", ">" + ofBytes(4000)} {
		wantWords(t, s, true, false)
	}
	wantWords(t, ofBytes(1<<20)+"->", true, true)
}

// P17.1: all short texts of the signs that comments end by, and of some others.
func TestSaysShort(t *testing.T) {
	l := []string{""}
	for len(l[0]) < 6 {
		var longer []string
		for _, s := range l {
			wantWords(t, s, secondWords(s), secondSays(s))
			for _, c := range []string{"-", ">", "!", "a", "\n", "\r", "\xff"} {
				if len(s) < 4 || c < "a" && c > " " {
					longer = append(longer, s+c)
				}
			}
		}
		l = longer
	}
}

// P17.1, P17.3: what Says says yes to is a comment's text behind which something goes on, whatever that is.
func TestSaysComesBack(t *testing.T) {
	seed := uint64(171)
	said := 0
	for range 20000 {
		s := drawnText(&seed, "-", "-", ">", "!", "<", "a", " ", "&", "ü", "\n", "\"", "</", "\x00", "\r", "\xff")
		if !plain.Says(s) {
			continue
		}
		said++
		l, e := parse.Part("<!--" + s + "-->x")
		if e != api.OK || len(l) != 2 || !sameTree(l[0], comment(s)) || !sameTree(l[1], text("x")) {
			t.Errorf("%q comes back as %v, %v", s, l, e)
		}
	}
	if said < 2000 {
		t.Errorf("%d are said: too few", said)
	}
}

// R1: very long texts.
func TestWordsLong(t *testing.T) {
	long := strings.Repeat("a-", 1<<24)
	wantWords(t, long+"a", true, true)
	wantWords(t, long, true, false)
	wantWords(t, long+"-a", true, false)
	wantWords(t, long+"\r", false, false)
	wantWords(t, strings.Repeat("\xe2\x82\xac", 1<<23), true, true)
	wantWords(t, strings.Repeat("\xff", 1<<24), false, false)
}

// draw is the next of a row of numbers that look like drawn ones, below n.
func draw(seed *uint64, n int) int {
	*seed = *seed*6364136223846793005 + 1442695040888963407
	return int(*seed >> 33 % uint64(n))
}

// pick is one of a list, drawn.
func pick[T any](seed *uint64, l ...T) T { return l[draw(seed, len(l))] }

// drawnText is a text of some of these, drawn.
func drawnText(seed *uint64, l ...string) string {
	s := ""
	for range draw(seed, 7) {
		s += pick(seed, l...)
	}
	return s
}
