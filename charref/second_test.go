package charref_test

import (
	"math/big"
	"regexp"
	"strings"
	"testing"

	"topiary/charref"
	"topiary/entity"
)

// The signatures that the chapter lists.
var (
	_ func(string, int, bool) (string, int) = charref.Ref
	_ func(string, bool) string             = charref.Decode
	_ func(string, bool) string             = charref.Escape
)

// bad are the bytes of the rune fffd.
const bad = "\xef\xbf\xbd"

// Chapter 8's names, and their signs in the same order: with `;` or without, and with `;` alone.
const (
	eitherNames = "amp lt gt quot AMP LT GT nbsp cent pound yen sect copy not reg deg plusmn para middot frac12 Auml times Ouml Uuml szlig aacute auml egrave eacute ouml divide uuml"
	eitherSigns = "& < > \" & < > \u00a0 ¢ £ ¥ § © ¬ ® ° ± ¶ · ½ Ä × Ö Ü ß á ä è é ö ÷ ü"
	endedNames  = "apos trade hellip mdash ndash lsquo rsquo ldquo rdquo bull euro alpha beta pi infin notin notni ne le ge fjlig"
	endedSigns  = "' ™ … — – ‘ ’ “ ” • € α β π ∞ ∉ ∌ ≠ ≤ ≥ fj"
)

// both are the ways in which a text may be asked: with attr, and without it.
var both = []bool{false, true}

// paired are names with their signs.
func paired(t testing.TB, names, signs string) map[string]string {
	t.Helper()
	m := map[string]string{}
	// Not by Fields: one of the signs is a blank to it.
	of := strings.Split(signs, " ")
	for i, name := range strings.Split(names, " ") {
		m[name] = of[i]
	}
	if len(m) != len(of) {
		t.Fatal("the test's own list:", names)
	}
	return m
}

// known are all names, with their `;` if they have one, and their signs.
func known(t testing.TB) map[string]string {
	t.Helper()
	m := map[string]string{}
	for name, signs := range paired(t, eitherNames, eitherSigns) {
		m[name], m[name+";"] = signs, signs
	}
	for name, signs := range paired(t, endedNames, endedSigns) {
		m[name+";"] = signs
	}
	if len(m) != 2*32+21 {
		t.Fatal("the test's own list:", len(m))
	}
	return m
}

// What the chapter's words call numbers of 10 and of 16, and a Letter, a digit or `=`.
var (
	numberOf10 = regexp.MustCompile(`^&#([0-9]+);?`)
	numberOf16 = regexp.MustCompile(`^&#[xX]([0-9A-Fa-f]+);?`)
	wordByte   = regexp.MustCompile(`^[A-Za-z0-9=]`)
)

// second is a second reading of the chapter's words: regular expressions, numbers of any size, and all names looked at.
type second struct {
	names map[string]string
}

// ref is what Ref answers of a text, from its beginning on.
func (x second) ref(s string, attr bool) (string, int) {
	if !strings.HasPrefix(s, "&") {
		return "", 0
	}
	if m := numberOf10.FindStringSubmatch(s); m != nil {
		return signOf(m[1], 10), len(m[0])
	}
	if m := numberOf16.FindStringSubmatch(s); m != nil {
		return signOf(m[1], 16), len(m[0])
	}
	longest := ""
	for name := range x.names {
		if len(name) > len(longest) && strings.HasPrefix(s[1:], name) {
			longest = name
		}
	}
	if longest == "" || attr && !strings.HasSuffix(longest, ";") && wordByte.MatchString(s[1+len(longest):]) {
		return "&", 1
	}
	return x.names[longest], 1 + len(longest)
}

// signOf is the sign of a number that is written with digits.
func signOf(digits string, base int) string {
	n, _ := new(big.Int).SetString(digits, base)
	if n.Cmp(big.NewInt(1114111)) > 0 {
		return string(entity.Code(1114112))
	}
	return string(entity.Code(int(n.Int64())))
}

// decode is what Decode answers.
func (x second) decode(s string, attr bool) string {
	ahead, behind, has := strings.Cut(s, "&")
	text := ahead
	for has {
		signs, n := x.ref("&"+behind, attr)
		ahead, behind, has = strings.Cut(behind[n-1:], "&")
		text += signs + ahead
	}
	return text
}

// escape is what Escape answers: signs are split off, and joined by what they are written as.
func (x second) escape(s string, attr bool) string {
	written := []string{"&", "&amp;", "\xc2\xa0", "&nbsp;", "<", "&lt;", ">", "&gt;"}
	if attr {
		written = append(written, "\"", "&quot;")
	}
	for i := 0; i < len(written); i += 2 {
		s = strings.Join(strings.Split(s, written[i]), written[i+1])
	}
	return s
}

// wantRef holds Ref against its answer.
func wantRef(t *testing.T, s string, at int, attr bool, want string, n int) {
	t.Helper()
	if got, has := charref.Ref(s, at, attr); got != want || has != n {
		t.Errorf("Ref(%.60q, %d, %t) = %q, %d, want %q, %d", s, at, attr, got, has, want, n)
	}
}

// wantRefBoth holds Ref against its answer, with attr and without it, at the beginning of a text and behind other ones.
func wantRefBoth(t *testing.T, s, want string, n int) {
	t.Helper()
	for _, attr := range both {
		for _, ahead := range []string{"", "&", "a&#", "&#x", "&amp", "&#6;", "ü\xff\x00"} {
			wantRef(t, ahead+s, len(ahead), attr, want, n)
		}
	}
}

// sayRef holds Ref, from each place of a text and from both that are none beside it, against the second reading.
func (x second) sayRef(t *testing.T, s string) {
	t.Helper()
	for _, attr := range both {
		for at := range len(s) + 1 {
			want, n := x.ref(s[at:], attr)
			wantRef(t, s, at, attr, want, n)
		}
		wantRef(t, s, -1, attr, "", 0)
		wantRef(t, s, len(s)+1, attr, "", 0)
	}
}

// sayTexts holds Decode and Escape of a text against the second reading, and Decode of Escape against the text.
func (x second) sayTexts(t *testing.T, s string) {
	t.Helper()
	for _, attr := range both {
		wantDecode(t, s, attr, x.decode(s, attr))
		wantEscape(t, s, attr, x.escape(s, attr))
	}
	wantBack(t, s)
}

// wantDecode holds Decode against its answer.
func wantDecode(t *testing.T, s string, attr bool, want string) {
	t.Helper()
	if got := charref.Decode(s, attr); got != want {
		t.Errorf("Decode(%.60q, %t) = %.60q, want %.60q", s, attr, got, want)
	}
}

// wantEscape holds Escape against its answer.
func wantEscape(t *testing.T, s string, attr bool, want string) {
	t.Helper()
	if got := charref.Escape(s, attr); got != want {
		t.Errorf("Escape(%.60q, %t) = %.60q, want %.60q", s, attr, got, want)
	}
}

// wantBack holds Decode of Escape against the text, each with attr and without it.
func wantBack(t *testing.T, s string) {
	t.Helper()
	for _, written := range both {
		for _, read := range both {
			if got := charref.Decode(charref.Escape(s, written), read); got != s {
				t.Errorf("Decode(Escape(%.60q, %t), %t) = %.60q", s, written, read, got)
			}
		}
	}
}

// draw are numbers that are the same in each run.
type draw uint64

// below is the next number below n.
func (d *draw) below(n int) int {
	*d = *d*6364136223846793005 + 1442695040888963407
	return int(*d>>33) % n
}

// text are some of the pieces, one behind the other.
func (d *draw) text(pieces []string, n int) string {
	s := ""
	for range n {
		s += pieces[d.below(len(pieces))]
	}
	return s
}

// pieces are what references are made of, whole and in parts.
var pieces = []string{
	"&", "&", "&", "&#", "&#x", "&#X", "#", "x", ";", ";", "=", " ", "0", "1", "9", "65", "41", "128", "1114111", "10ffff", "d800", "F", "a", "g", "Z",
	"&amp", "amp", "&lt", "&not", "in;", "in", "it", "ni;", "&notin;", "&copy", "&fjlig", "&frac", "12", "&pi", "&hop;", "<", ">", "\"", "'",
	"\u00a0", "\xc2", "\xa0", "\xff", "\x00", "ü", "€", bad,
}
