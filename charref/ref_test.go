package charref_test

import (
	"html"
	"math"
	"strconv"
	"strings"
	"testing"

	"topiary/charref"
	"topiary/entity"
)

// P9.1: the chapter's example, and each of its ways once.
func TestRef(t *testing.T) {
	for _, x := range []struct {
		s    string
		at   int
		attr bool
		want string
		n    int
	}{
		{"&notit", 0, false, "\u00ac", 4},
		{"&notit", 0, true, "&", 1},
		{"&notit;", 0, false, "¬", 4},
		{"&notit;", 0, true, "&", 1},
		{"&notin;", 0, false, "∉", 7},
		{"&notin;", 0, true, "∉", 7},
		{"&notin;x=", 0, true, "∉", 7},
		{"&notin", 0, false, "¬", 4},
		{"&notin", 0, true, "&", 1},
		{"&not;in;", 0, true, "¬", 5},
		{"&amp;amp;", 0, false, "&", 5},
		{"&amp;=", 0, true, "&", 5},
		{"&ampamp;", 0, false, "&", 4},
		{"&ampamp;", 0, true, "&", 1},
		{"&amp&amp", 0, true, "&", 4},
		{"&amp#65;", 0, true, "&", 4},
		{"a&lt b", 1, true, "<", 3},
		{"a&lt=b", 1, true, "&", 1},
		{"a&lt=b", 1, false, "<", 3},
		{"a&lt5", 1, true, "&", 1},
		{"a&lt5", 1, false, "<", 3},
		{"&#65;66", 0, false, "A", 5},
		{"&#65;;", 0, true, "A", 5},
		{"&#65=", 0, true, "A", 4},
		{"&#65z", 0, true, "A", 4},
		{"&#x41g", 0, true, "A", 5},
		{"&#X41;1", 0, true, "A", 6},
		{"&#39;", 0, false, "'", 5},
		{"&#x20ac;", 0, false, "\xe2\x82\xac", 8},
		{"&#128;", 0, false, "€", 6},
		{"&#x1F333;", 0, false, "\xf0\x9f\x8c\xb3", 9},
		{"&&lt;", 0, false, "&", 1},
		{"&&lt;", 1, false, "<", 4},
		{"&", 0, true, "&", 1},
	} {
		wantRef(t, x.s, x.at, x.attr, x.want, x.n)
		// What is answered does not hang on what was asked before (R4).
		wantRef(t, x.s, x.at, x.attr, x.want, x.n)
	}
}

// P9.1: where no `&` stands: other bytes, the text's end, below 0, beyond the end, and as far as an int goes.
func TestRefNowhere(t *testing.T) {
	for _, attr := range both {
		for c := range 256 {
			if c != '&' {
				wantRef(t, string([]byte{byte(c)})+"amp;", 0, attr, "", 0)
			}
		}
		for _, s := range []string{"", "&", "amp;", "&amp;", "&#65;", "#65;", "&&", "ü&", "x&lt", strings.Repeat("&amp;", 2000)} {
			wantRef(t, s, len(s), attr, "", 0)
			for _, far := range []int{1, 2, 3, 5, 100, 1 << 20, 1 << 31, 1 << 32} {
				wantRef(t, s, -far, attr, "", 0)
				wantRef(t, s, len(s)+far, attr, "", 0)
			}
			for _, at := range []int{math.MinInt, math.MinInt + 1, math.MinInt + len(s), math.MaxInt, math.MaxInt - 1, math.MaxInt - 2, math.MaxInt - 3, math.MinInt32, math.MaxInt32} {
				wantRef(t, s, at, attr, "", 0)
			}
		}
		for _, at := range []int{1, 2, 3, 4} {
			wantRef(t, "&amp;", at, attr, "", 0)
			wantRef(t, "&#65;", at, attr, "", 0)
		}
	}
}

// P9.1: `&#` and `&#x` without a digit: an `&`.
func TestRefNoDigit(t *testing.T) {
	for _, s := range []string{
		"&#", "&#;", "&# ", "&# 65;", "&#-65;", "&#+65;", "&#.5", "&##65;", "&#&#65;", "&#a;", "&#f0;", "&#A", "&#amp;", "&#g", "&#=", "&#/", "&#:", "&#_1", "&#\x0065", "&#\uff16\uff15;", "&#\xff", "&#lt;",
		"&#x", "&#X", "&#x;", "&#X;", "&#x ", "&#x 41;", "&#x-41;", "&#x+41;", "&#xg", "&#XG", "&#xG1;", "&#x`", "&#x@", "&#x/", "&#x:", "&#xx41;", "&#xX41", "&#X&#65;", "&#x#41;", "&#x\x0041", "&#x\xff", "&#x\uff14;",
	} {
		wantRefBoth(t, s, "&", 1)
	}
}

// P9.1: each byte where a digit may stand, first and behind another one: of 10, of 16.
func TestRefDigitOfEachByte(t *testing.T) {
	for c := range 256 {
		s := string([]byte{byte(c)})
		tens, sixteens := strings.IndexByte("0123456789", byte(c)), strings.IndexByte("0123456789abcdef", byte(c))
		if c >= 'A' && c <= 'F' {
			sixteens = c - 'A' + 10
		}
		for _, x := range []struct {
			begin string
			digit int
			base  int
		}{{"&#", tens, 10}, {"&#x", sixteens, 16}, {"&#X", sixteens, 16}} {
			for _, attr := range both {
				sayDigit(t, x.begin, s, x.digit, x.base, attr)
			}
		}
	}
}

// sayDigit holds Ref of a beginning and a byte, which is a digit or (below 0) none, against its answer.
func sayDigit(t *testing.T, begin, s string, digit, base int, attr bool) {
	t.Helper()
	second := string(rune(4*base + digit))
	switch {
	case digit >= 0:
		wantRef(t, begin+"4"+s, 0, attr, second, len(begin)+2)
		wantRef(t, begin+"4"+s+";", 0, attr, second, len(begin)+3)
		wantRef(t, begin+"0"+s+"g", 0, attr, string(entity.Code(digit)), len(begin)+2)
		wantRef(t, begin+s, 0, attr, string(entity.Code(digit)), len(begin)+1)
	case s == ";":
		wantRef(t, begin+"4"+s, 0, attr, "\x04", len(begin)+2)
		wantRef(t, begin+s, 0, attr, "&", 1)
	default:
		wantRef(t, begin+"4"+s, 0, attr, "\x04", len(begin)+1)
		wantRef(t, begin+"4"+s+";", 0, attr, "\x04", len(begin)+1)
		// An x makes 16 of 10.
		if base == 16 || s != "x" && s != "X" {
			wantRef(t, begin+s+"1;", 0, attr, "&", 1)
		}
	}
}

// P9.1: digits with a `;`, with none, with something else; digits of 16 behind `&#` end the number.
func TestRefNumber(t *testing.T) {
	for _, x := range []struct {
		s    string
		want string
		n    int
	}{
		{"&#65", "A", 4}, {"&#65;", "A", 5}, {"&#65;;", "A", 5}, {"&#65 ;", "A", 4}, {"&#65&", "A", 4}, {"&#65=1", "A", 4}, {"&#65\xff", "A", 4},
		{"&#x41", "A", 5}, {"&#x41;", "A", 6}, {"&#X41;;", "A", 6}, {"&#x41 ;", "A", 5}, {"&#x41&lt;", "A", 5}, {"&#x41x", "A", 5}, {"&#X41=", "A", 5},
		{"&#65a;", "A", 4}, {"&#6f;", "\x06", 3}, {"&#1e3;", "\x01", 3}, {"&#10ffff;", "\n", 4}, {"&#65x41;", "A", 4}, {"&#0x41;", bad, 3}, {"&#x0x41;", bad, 4},
		{"&#xaf;", "¯", 6}, {"&#xAF;", "¯", 6}, {"&#XaF", "¯", 5}, {"&#xface;", "\uface", 8}, {"&#xFACE;", "\uface", 8}, {"&#xbaDC;", "\ubadc", 8}, {"&#xdeg;", "Þ", 5}, {"&#xcent;", "Î", 5},
		{"&#9;", "\t", 4}, {"&#10;", "\n", 5}, {"&#13;", "\r", 5}, {"&#1;", "\x01", 4}, {"&#127;", "\x7f", 6}, {"&#160;", "\xc2\xa0", 6}, {"&#38;", "&", 5}, {"&#x26;", "&", 6}, {"&#38;lt;", "&", 5},
	} {
		wantRefBoth(t, x.s, x.want, x.n)
	}
}

// P9.1: numbers of which Code is another rune than the number's own.
func TestRefCode(t *testing.T) {
	for n, want := range map[int]string{
		0: bad, 1: "\x01", 0x7f: "\x7f", 0x80: "€", 0x81: "\u0081", 0x82: "‚", 0x8d: "\u008d", 0x91: "‘", 0x99: "™", 0x9e: "ž", 0x9f: "Ÿ", 0xa0: "\u00a0",
		0xd7ff: "\ud7ff", 0xd800: bad, 0xd801: bad, 0xdbff: bad, 0xdc00: bad, 0xdffe: bad, 0xdfff: bad, 0xe000: "\ue000", 0xfffd: bad, 0xfffe: "\ufffe", 0xffff: "\uffff",
		0x10000: "\U00010000", 0x10fffe: "\U0010fffe", 0x10ffff: "\U0010ffff", 0x110000: bad, 0x110001: bad, 0x110041: bad, 0x200041: bad, 0x1000041: bad,
	} {
		sayNumber(t, strconv.Itoa(n), "", want)
		sayNumber(t, strconv.FormatInt(int64(n), 16), "x", want)
		sayNumber(t, strings.ToUpper(strconv.FormatInt(int64(n), 16)), "X", want)
	}
}

// sayNumber holds Ref of a number's digits, with zeros ahead, with `;` and without it, against its answer.
func sayNumber(t *testing.T, digits, x, want string) {
	t.Helper()
	for _, zeros := range []int{0, 1, 2, 20, 400} {
		s := "&#" + x + strings.Repeat("0", zeros) + digits
		for _, attr := range both {
			wantRef(t, s, 0, attr, want, len(s))
			wantRef(t, s+";", 0, attr, want, len(s)+1)
			wantRef(t, s+"z;", 0, attr, want, len(s))
			wantRef(t, s+"=", 0, attr, want, len(s))
		}
	}
}

// P9.1: numbers too great for a rune, for 32 and for 64 bits, those among them of which a part would be a rune.
func TestRefGreat(t *testing.T) {
	for _, digits := range []string{
		"1114112", "1114113", "1114177", "2147483647", "2147483648", "2147483713", "4294967295", "4294967296", "4294967361",
		"9223372036854775807", "9223372036854775808", "9223372036854775873", "18446744073709551615", "18446744073709551616", "18446744073709551681",
		"36893488147419103297", "99999999999999999999", "340282366920938463463374607431768211521", "1" + strings.Repeat("0", 5000), strings.Repeat("9", 9000),
	} {
		sayNumber(t, digits, "", bad)
	}
	for _, digits := range []string{
		"110000", "110041", "7fffffff", "80000041", "ffffffff", "FFFFFFFF", "100000041", "7fffffffffffffff", "8000000000000041", "ffffffffffffffff", "10000000000000041",
		"100000000000000000000000000000041", "fffffffffffffffffffffffff", "1" + strings.Repeat("0", 5000) + "41", strings.Repeat("f", 9000),
	} {
		sayNumber(t, digits, "x", bad)
		sayNumber(t, digits, "X", bad)
	}
}

// P9.1: zeros ahead, as many as there may be; zeros alone.
func TestRefZeros(t *testing.T) {
	zeros := strings.Repeat("0", 100000)
	for _, begin := range []string{"&#", "&#x", "&#X"} {
		wantRef(t, begin+zeros, 0, false, bad, len(begin)+len(zeros))
		wantRef(t, begin+zeros+";", 0, true, bad, len(begin)+len(zeros)+1)
		wantRef(t, begin+zeros+"9;", 0, true, "\t", len(begin)+len(zeros)+2)
	}
	wantRef(t, "&#"+zeros+"65;", 0, false, "A", 2+len(zeros)+3)
	wantRef(t, "&#x"+zeros+"10ffff;", 0, false, "\U0010ffff", 3+len(zeros)+7)
}

// P9.1: each number up to above 10ffff, of 10 and of 16.
func TestRefOfEachNumber(t *testing.T) {
	for n := range 0x110100 {
		want := string(entity.Code(n))
		for _, s := range []string{"&#" + strconv.Itoa(n), "&#x" + strconv.FormatInt(int64(n), 16)} {
			if got, has := charref.Ref(s+";", 0, false); got != want || has != len(s)+1 {
				t.Fatalf("Ref(%q) = %q, %d, want %q, %d", s+";", got, has, want, len(s)+1)
			}
			if got, has := charref.Ref(s, 0, true); got != want || has != len(s) {
				t.Fatalf("Ref(%q) = %q, %d, want %q, %d", s, got, has, want, len(s))
			}
		}
	}
}

// P9.1: each name with `;`, whatever stands behind it.
func TestRefOfEndedNames(t *testing.T) {
	for name, signs := range known(t) {
		if !strings.HasSuffix(name, ";") {
			continue
		}
		wantRefBoth(t, "&"+name, signs, len(name)+1)
		for c := range 256 {
			for _, attr := range both {
				wantRef(t, "&"+name+string([]byte{byte(c)}), 0, attr, signs, len(name)+1)
			}
		}
	}
}

// P9.1: each name that may do without `;`, without it: at the text's end, and with each byte behind it: in an attribute it is none ahead of a Letter, a digit, `=`.
func TestRefOfBareNames(t *testing.T) {
	for name, signs := range paired(t, eitherNames, eitherSigns) {
		wantRefBoth(t, "&"+name, signs, len(name)+1)
		for c := range 256 {
			s, n := "&"+name+string([]byte{byte(c)}), len(name)+1
			if c == ';' {
				n++
			}
			wantRef(t, s, 0, false, signs, n)
			if strings.IndexByte("ABCDEFGHIJKLMNOPQRSTUVWXYZabcdefghijklmnopqrstuvwxyz0123456789=", byte(c)) >= 0 {
				wantRef(t, s, 0, true, "&", 1)
				wantRef(t, s+";", 0, true, "&", 1)
			} else {
				wantRef(t, s, 0, true, signs, n)
			}
		}
		// A letter of more bytes than one is no Letter.
		wantRefBoth(t, "&"+name+"ä", signs, len(name)+1)
		wantRefBoth(t, "&"+name+"\uff11", signs, len(name)+1)
	}
}

// P9.1: each name that needs its `;`, without it: none, or a shorter name.
func TestRefOfUnendedNames(t *testing.T) {
	for name := range paired(t, endedNames, endedSigns) {
		for _, behind := range []string{"", " ", "=", "a", "1", "&", ":", "ü", " ;"} {
			s := "&" + name + behind
			if strings.HasPrefix(name, "not") {
				wantRef(t, s, 0, false, "¬", 4)
			} else {
				wantRef(t, s, 0, false, "&", 1)
			}
			wantRef(t, s, 0, true, "&", 1)
		}
	}
}

// P9.1: what is no name.
func TestRefNoName(t *testing.T) {
	for _, s := range []string{
		"&", "&;", "& ", "& amp;", "&&", "&&amp;", "&=", "&1;", "&x", "&x;", "&x41;", "&X41", "&hop;", "&Amp;", "&aMP", "&a;mp", "&am", "&a", "&l;t", "&lT;", "&NOT;", "&Copy;", "&apo;", "&eur;", "&fj;", "&frac13;", "&frac1;",
		"&<", "&>", "&\"", "&'", "&\x00amp;", "&\xff", "&ü;", "&\uff23;", "&ﬁ;", "&;amp;", "&;#65;", "& #65;", "&65;", "&x#41;", "&Alpha;", "&larr;", "&iuml;", "&eth", "&" + strings.Repeat("z", 9000),
	} {
		wantRefBoth(t, s, "&", 1)
	}
}

// P9.1: each beginning of each reference, from each place, against the second reading.
func TestRefOfCut(t *testing.T) {
	x := second{known(t)}
	l := []string{"#1114111;", "#x10fFfF;", "#X0;", "#128z", "#xd800"}
	for name := range x.names {
		l = append(l, name)
	}
	for _, s := range l {
		for n := range len(s) + 1 {
			for _, behind := range []string{"", ";", "=", "z", "0", "&"} {
				x.sayRef(t, "&"+s[:n]+behind)
			}
		}
	}
}

// P9.1: each reference with another one behind it, against the second reading.
func TestRefOfPairs(t *testing.T) {
	x := second{known(t)}
	for a := range x.names {
		for b := range x.names {
			for _, s := range []string{"&" + a + b, "&" + a + "&" + b} {
				for _, attr := range both {
					want, n := x.ref(s, attr)
					wantRef(t, s, 0, attr, want, n)
				}
			}
		}
	}
}

// P9.1: texts of pieces of references, from each place, against the second reading.
func TestRefOfMany(t *testing.T) {
	x, d := second{known(t)}, draw(9)
	for n := range 600 {
		x.sayRef(t, d.text(pieces, n%20))
	}
}

// P9.1: references as the library knows them from the web's own list; there is a blank behind them, at which all end.
func TestRefAsTheWeb(t *testing.T) {
	var l []string
	for name := range known(t) {
		l = append(l, "&"+name)
	}
	// Not from 0 on: the library takes no number of one digit without its `;`.
	for n := 10; n < 0x110100; n += 379 {
		l = append(l, "&#"+strconv.Itoa(n), "&#x"+strconv.FormatInt(int64(n), 16)+";")
	}
	for _, s := range append(l, "&", "&;", "&#", "&#;", "&#x", "&#xg", "&hop;", "&#99999999;", "&#x110000") {
		got, n := charref.Ref(s+" ", 0, false)
		if want := html.UnescapeString(s + " "); got+(s + " ")[n:] != want {
			t.Errorf("Ref(%q) = %q, %d, want %q", s, got, n, want)
		}
	}
}

// P9.1: an answer has at least one byte, of those that are there, just if there is an `&`.
func TestRefBounds(t *testing.T) {
	d := draw(91)
	for n := range 300 {
		s := d.text(pieces, n%15)
		for at := range len(s) {
			for _, attr := range both {
				got, has := charref.Ref(s, at, attr)
				if s[at] == '&' && (has < 1 || has > len(s)-at || got == "") || s[at] != '&' && (has != 0 || got != "") {
					t.Errorf("Ref(%q, %d, %t) = %q, %d", s, at, attr, got, has)
				}
			}
		}
	}
}
