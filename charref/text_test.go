package charref_test

import (
	"html"
	"maps"
	"slices"
	"strconv"
	"strings"
	"testing"

	"topiary/charref"
)

// plain are texts without `&`.
var plain = []string{
	"", " ", "a", "amp;", "#65;", "#x41", "lt;gt;", "not", ";", "a = b", "größe", "€\U0010ffff", "\u00a0", bad, "\x00", "\n\r\n\t",
	"\xff", "\xc2", "\xa0", "\xc2\xff\xa0", "\xed\xa0\x80", "\xf4\x90\x80\x80", "\xc0\xa6amp;", "\uff06amp;", "<p class=\"x\">'</p>", strings.Repeat("amp;", 3000),
}

// P9.2: Decode of texts without `&`: the same.
func TestDecodePlain(t *testing.T) {
	for _, s := range plain {
		for _, attr := range both {
			wantDecode(t, s, attr, s)
		}
	}
}

// P9.2: Decode of texts with one reference, with several, with `&` behind `&`, and with what makes another one.
func TestDecode(t *testing.T) {
	for _, x := range []struct {
		s    string
		text string // without attr
		attr string
	}{
		{"&", "&", "&"},
		{"&&", "&&", "&&"},
		{"&&&amp;&&", "&&&&&", "&&&&&"},
		{"&&lt;", "&<", "&<"},
		{"&&#65;&", "&A&", "&A&"},
		{"&#&#65;", "&#A", "&#A"},
		{"&#x&#x41;", "&#xA", "&#xA"},
		{"&#65&#66&#67", "ABC", "ABC"},
		{"&lt&gt&amp", "<>&", "<>&"},
		{"&ampamp;", "&amp;", "&ampamp;"},
		{"&amp;lt;", "&lt;", "&lt;"},
		{"&amp;amp;amp;", "&amp;amp;", "&amp;amp;"},
		{"&amp;#65;", "&#65;", "&#65;"},
		{"&#38;lt;", "&lt;", "&lt;"},
		{"&#38#65;", "&#65;", "&#65;"},
		{"&#38;#38;#38;", "&#38;#38;", "&#38;#38;"},
		{"&&amp;lt;", "&&lt;", "&&lt;"},
		{"a&amp", "a&", "a&"},
		{"a&ampb", "a&b", "a&ampb"},
		{"&amp;b", "&b", "&b"},
		{"x&notit;y", "x¬it;y", "x&notit;y"},
		{"x&notin;y", "x∉y", "x∉y"},
		{"&not;&not&notit&not ", "¬¬¬it¬ ", "¬¬&notit¬ "},
		{"?a=1&lt=2&gt;=3&copy=4&copy4&copy", "?a=1<=2>=3©=4©4©", "?a=1&lt=2>=3&copy=4&copy4©"},
		{"&fjlig;&fjlig", "fj&fjlig", "fj&fjlig"},
		{"&#0;&#128;&#xd800;&#x110000;", bad + "€" + bad + bad, bad + "€" + bad + bad},
		{"\xff&lt;\xc2&nbsp;\xa0", "\xff<\xc2\xc2\xa0\xa0", "\xff<\xc2\xc2\xa0\xa0"},
		{"\x00&#10;\r\n", "\x00\n\r\n", "\x00\n\r\n"},
		{"&hop;&;& ", "&hop;&;& ", "&hop;&;& "},
		{"\u00a0&nbsp;\u00a0", "\u00a0\u00a0\u00a0", "\u00a0\u00a0\u00a0"},
	} {
		wantDecode(t, x.s, false, x.text)
		wantDecode(t, x.s, true, x.attr)
		wantDecode(t, x.s, false, x.text)
	}
}

// P9.2: Decode of each name's and of many numbers' references, between texts of all sorts.
func TestDecodeBetween(t *testing.T) {
	for _, ahead := range plain {
		for name, signs := range known(t) {
			if strings.HasSuffix(name, ";") {
				wantDecode(t, ahead+"&"+name+ahead, true, ahead+signs+ahead)
			}
			wantDecode(t, ahead+"&"+name+" "+ahead, false, ahead+signs+" "+ahead)
		}
		for _, n := range []int{9, 65, 0x3bb, 0x1f333} {
			wantDecode(t, ahead+"&#"+strconv.Itoa(n)+";"+ahead, false, ahead+string(rune(n))+ahead)
		}
	}
}

// P9.2: long texts: of `&` alone, of references, and of a number that does not end.
func TestDecodeLong(t *testing.T) {
	const n = 1 << 14
	for _, attr := range both {
		for _, x := range []struct{ s, want string }{
			{"&", "&"}, {"&#", "&#"}, {"&#x", "&#x"}, {"&amp;", "&"}, {"&#65;", "A"}, {"&#x1f333", "\U0001f333"}, {"&fjlig;", "fj"}, {"&lt;p&gt;\n", "<p>\n"},
		} {
			wantDecode(t, strings.Repeat(x.s, n), attr, strings.Repeat(x.want, n))
		}
		wantDecode(t, "&#"+strings.Repeat("9", n)+";&lt;", attr, bad+"<")
	}
}

// P9.2: Decode as the library's, of texts whose references end where both say so.
func TestDecodeAsTheWeb(t *testing.T) {
	names := slices.Sorted(maps.Keys(known(t)))
	d := draw(94)
	for n := range 1500 {
		s := "a &"
		for range n % 9 {
			s += "&" + names[d.below(len(names))] + " -"
		}
		s += "&#" + strconv.Itoa(n) + ";b"
		wantDecode(t, s, false, html.UnescapeString(s))
	}
}

// P9.2: Escape of each of the five signs, and of each other byte, with attr and without it.
func TestEscapeOfEachByte(t *testing.T) {
	five := map[string]string{"&": "&amp;", "<": "&lt;", ">": "&gt;", "\"": "&quot;", "\xc2\xa0": "&nbsp;"}
	for s, want := range five {
		wantEscape(t, s, true, want)
		if s == "\"" {
			want = s
		}
		wantEscape(t, s, false, want)
	}
	for c := range 256 {
		if s := string([]byte{byte(c)}); five[s] == "" {
			wantEscape(t, s, false, s)
			wantEscape(t, s, true, s)
		}
	}
}

// P9.2: Escape of texts: several signs, references that stand there already, c2 and a0 in other places, what is no rune.
func TestEscape(t *testing.T) {
	for _, x := range []struct {
		s    string
		text string // without attr
		attr string
	}{
		{"", "", ""},
		{"größe 'x' €", "größe 'x' €", "größe 'x' €"},
		{"&<>\"'\u00a0", "&amp;&lt;&gt;\"'&nbsp;", "&amp;&lt;&gt;&quot;'&nbsp;"},
		{"<a href=\"x?a&b\">", "&lt;a href=\"x?a&amp;b\"&gt;", "&lt;a href=&quot;x?a&amp;b&quot;&gt;"},
		{"&amp;", "&amp;amp;", "&amp;amp;"},
		{"&lt;&#65;&nbsp;&quot;", "&amp;lt;&amp;#65;&amp;nbsp;&amp;quot;", "&amp;lt;&amp;#65;&amp;nbsp;&amp;quot;"},
		{"&&&", "&amp;&amp;&amp;", "&amp;&amp;&amp;"},
		{"\u00a0\u00a0", "&nbsp;&nbsp;", "&nbsp;&nbsp;"},
		{"\xc2", "\xc2", "\xc2"},
		{"\xa0", "\xa0", "\xa0"},
		{"\xa0\xc2", "\xa0\xc2", "\xa0\xc2"},
		{"\xc2\xff\xa0", "\xc2\xff\xa0", "\xc2\xff\xa0"},
		{"\xc2<\xa0", "\xc2&lt;\xa0", "\xc2&lt;\xa0"},
		{"\xc2\xc2\xa0\xa0", "\xc2&nbsp;\xa0", "\xc2&nbsp;\xa0"},
		{"\xe2\xc2\xa0", "\xe2&nbsp;", "\xe2&nbsp;"},
		{"à†\u0820\u00a1\u0080", "à†\u0820\u00a1\u0080", "à†\u0820\u00a1\u0080"},
		{"\xff<\xfe>\x00", "\xff&lt;\xfe&gt;\x00", "\xff&lt;\xfe&gt;\x00"},
		{"\xed\xa0\x80\"", "\xed\xa0\x80\"", "\xed\xa0\x80&quot;"},
		{"\uff06\uff1c\u2039\u201c\u2007\u202f", "\uff06\uff1c\u2039\u201c\u2007\u202f", "\uff06\uff1c\u2039\u201c\u2007\u202f"},
		{"\r\n\t\x0c ", "\r\n\t\x0c ", "\r\n\t\x0c "},
	} {
		wantEscape(t, x.s, false, x.text)
		wantEscape(t, x.s, true, x.attr)
		wantEscape(t, x.s, false, x.text)
	}
}

// P9.2: none of the signs is left in what Escape answers, and what it answers has no other reference than its own.
func TestEscapeLeavesNone(t *testing.T) {
	d := draw(92)
	own := strings.NewReplacer("&amp;", "", "&lt;", "", "&gt;", "", "&nbsp;", "", "&quot;", "")
	for n := range 500 {
		s := d.text(pieces, n%30)
		for _, attr := range both {
			got := charref.Escape(s, attr)
			if strings.ContainsAny(got, "<>") || attr && strings.Contains(got, "\"") || strings.Contains(got, "\u00a0") || strings.Contains(own.Replace(got), "&") {
				t.Errorf("Escape(%q, %t) = %q", s, attr, got)
			}
		}
	}
}

// P9.2, P9.3: all texts of two bytes, and of three with c2 and a0 among them.
func TestTextsOfTwoBytes(t *testing.T) {
	x := second{known(t)}
	for a := range 256 {
		for b := range 256 {
			x.sayTexts(t, string([]byte{byte(a), byte(b)}))
		}
		x.sayTexts(t, string([]byte{0xc2, 0xa0, byte(a)}))
		x.sayTexts(t, string([]byte{byte(a), 0xc2, 0xa0}))
		x.sayTexts(t, string([]byte{0xc2, byte(a), 0xa0}))
	}
}

// P9.2, P9.3: all texts of up to four of the bytes that references are made of.
func TestTextsOfFew(t *testing.T) {
	x := second{known(t)}
	const bytes = "&#x1lt;<\"\xc2\xa0"
	texts := []string{""}
	for range 4 {
		var longer []string
		for _, s := range texts {
			for i := range len(bytes) {
				longer = append(longer, s+bytes[i:i+1])
			}
		}
		for _, s := range longer {
			x.sayTexts(t, s)
		}
		texts = longer
	}
}

// P9.2, P9.3: texts of pieces of references.
func TestTextsOfMany(t *testing.T) {
	x, d := second{known(t)}, draw(93)
	for n := range 2000 {
		x.sayTexts(t, d.text(pieces, n%40))
	}
}

// P9.3: Decode of Escape: texts of all sorts, references of all names, and long texts; what was escaped twice comes back by steps.
func TestBack(t *testing.T) {
	for _, s := range plain {
		wantBack(t, s)
		wantBack(t, "&"+s+"&")
	}
	for name := range known(t) {
		wantBack(t, "&"+name)
		wantBack(t, "<&"+name+"=\"&"+name+"\u00a0")
	}
	for _, s := range []string{"&amp;", "&#38;", "&", "<\">", "\u00a0&nbsp;", "\xc2&nbsp;\xa0", "&#xa0;"} {
		wantBack(t, strings.Repeat(s, 1000))
		for _, attr := range both {
			twice := charref.Escape(charref.Escape(s, attr), attr)
			if got := charref.Decode(charref.Decode(twice, attr), attr); got != s {
				t.Errorf("%q escaped twice: %q", s, got)
			}
		}
	}
}
