package token_test

import (
	"math"
	"slices"
	"strings"
	"testing"

	"topiary/api"
	"topiary/token"
)

// rawNames are the raw elements, by how their texts are read.
var rawNames = map[string]int{"title": 1, "textarea": 1, "style": 2, "script": 2, "xmp": 2, "iframe": 2, "noembed": 2, "noframes": 2}

// blanks are the bytes that are Blanks.
const blanks = "\t\n\f "

// P10.1: each name, and others: in great letters, cut, with something ahead or behind, names of other elements.
func TestRaw(t *testing.T) {
	others := []string{"", " ", "p", "a", "plaintext", "noscript", "template", "listing", "pre", "head", "html", "body", "frame", "frameset", "embed", "area", "text", "svg", "titel", "titles", "xm", "xmpp", "\x00", "\xff", "ſtyle", "ſcript", "titleſ", strings.Repeat("title", 1000)}
	for name, want := range rawNames {
		if got := token.Raw(name); got != want {
			t.Errorf("Raw(%q) = %d, want %d", name, got, want)
		}
		others = append(others, strings.ToUpper(name), strings.ToUpper(name[:1])+name[1:], name[:1]+strings.ToUpper(name[1:]), " "+name, name+" ", "/"+name, "<"+name, name+">", name+"\x00", name+name, name+"s", "x"+name)
		for i := range name {
			others = append(others, name[:i])
			if i > 0 {
				others = append(others, name[i:])
			}
		}
	}
	for _, name := range others {
		if got := token.Raw(name); got != 0 {
			t.Errorf("Raw(%q) = %d, want 0", name, got)
		}
	}
}

// P10.2: at the end of s, below 0 and beyond its end, as far as an int goes, with raw and without it.
func TestNextAtEnd(t *testing.T) {
	for _, s := range []string{"", " ", "a", "<", "<a>", "</a>", "<!--", "</title>", "x</title>", "ü\xff", strings.Repeat("<p>a ", 2000)} {
		want := is(api.Token{Kind: api.TokEnd0}, len(s))
		for _, raw := range []string{"", "title", "style", "p", "\x00"} {
			wantNext(t, s, len(s), raw, want)
			for _, far := range []int{1, 2, 3, 7, 100, 1 << 20, 1 << 31, 1 << 32} {
				wantNext(t, s, -far, raw, want)
				wantNext(t, s, len(s)+far, raw, want)
			}
			for _, at := range []int{math.MinInt, math.MinInt + 1, math.MinInt + len(s), math.MaxInt, math.MaxInt - 1, math.MaxInt - 2, math.MaxInt - len(s), math.MinInt32, math.MaxInt32} {
				wantNext(t, s, at, raw, want)
			}
		}
	}
}

// P10.2: a raw element's text: as it is of the second sort and of other names, decoded of the first sort.
func TestNextRaw(t *testing.T) {
	for _, name := range append(rawAndOthers(), "TITLE", "Title", "TextArea", "plaintext", "titl", "1", "ü", "\xff", "a-b", "/", "<", "a b", " ") {
		inside := "a <b c=\"d\">&lt;&#65;&notit; <!-- </ --> </p>\n&"
		read := inside
		if rawNames[name] == 1 {
			read = "a <b c=\"d\"><A¬it; <!-- </ --> </p>\n&"
		}
		if name == "p" {
			inside, read = strings.ReplaceAll(inside, "</p>", ""), strings.ReplaceAll(read, "</p>", "")
		}
		for _, behind := range []string{" ", "\t", "\n", "\f", "/", ">", " x", "/>", ">y", " x=\"", "  >", "//"} {
			for _, c := range []string{name, small(name), great(name)} {
				wantNext(t, inside+"</"+c+behind, 0, name, is(rawText(read), len(inside)))
				wantNext(t, "<b>"+inside+"</"+c+behind+"</"+name+">", 3, name, is(rawText(read), 3+len(inside)))
			}
		}
	}
}

// great is a text with A to Z for a to z.
func great(s string) string {
	l := []byte(s)
	for i, c := range l {
		if c >= 'a' && c <= 'z' {
			l[i] = c - 32
		}
	}
	return string(l)
}

// rawAndOthers are the raw elements' names and some others.
func rawAndOthers() []string {
	l := []string{"p", "b", "x"}
	for name := range rawNames {
		l = append(l, name)
	}
	slices.Sort(l)
	return l
}

// P10.2: behind the name each byte: a Blank, `/`, `>` make an end of it, others none.
func TestNextRawEachByte(t *testing.T) {
	for _, name := range rawAndOthers() {
		for c := range 256 {
			s := "x</" + name + string([]byte{byte(c)})
			if strings.IndexByte(blanks+"/>", byte(c)) >= 0 {
				wantNext(t, s, 0, name, is(rawText("x"), 1))
			} else {
				wantNext(t, s, 0, name, is(rawText(s), len(s)))
				wantNext(t, s+"</"+name+">", 0, name, is(rawText(s), len(s)))
				wantNext(t, s+">", 0, name, is(rawText(s+">"), len(s)+1))
			}
		}
	}
}

// P10.2: the end of s as the end of a raw element: the end tag cut at each place, and other ends that are none.
func TestNextRawCut(t *testing.T) {
	for _, name := range rawAndOthers() {
		whole := "</" + name
		for i := range len(whole) + 1 {
			for _, s := range []string{whole[:i], "x" + whole[:i], "<" + whole[:i], whole + whole[:i]} {
				if s != "" {
					wantNext(t, s, 0, name, is(rawText(s), len(s)))
				}
			}
		}
		for _, s := range []string{"< /" + name + ">", "</ " + name + ">", "<" + name + ">", "/" + name + ">", "<//" + name + ">", "</" + name + "\x00>", "</" + name + "\r>", "</" + name[1:] + "\v>", "<!--</" + name, "\\</" + name + "s>"} {
			wantNext(t, s, 0, name, is(rawText(s), len(s)))
		}
	}
	// Letters that some take for s and k in another case are none here.
	wantNext(t, "</ſtyle></STYLE>", 0, "style", is(rawText("</ſtyle>"), 9))
	wantNext(t, "</\u212a></K>", 0, "k", is(rawText("</\u212a>"), 6))
	wantNext(t, "</Ü></ü>", 0, "ü", is(rawText("</Ü>"), 5))
	wantNext(t, "</@></`>", 0, "`", is(rawText("</@>"), 4))
	wantNext(t, "</{></[>", 0, "[", is(rawText("</{>"), 4))
}

// P10.2: at the end of a raw element: as without raw.
func TestNextRawAtItsEnd(t *testing.T) {
	for _, x := range []struct {
		s, raw string
		want   said
	}{
		{"</title>", "title", is(end("title"), 8)},
		{"</TITLE>", "title", is(end("title"), 8)},
		{"</title>", "TITLE", is(end("title"), 8)},
		{"</style x=1 >a", "style", is(end("style"), 13)},
		{"</Style/>", "style", is(end("style"), 9)},
		{"</style\n", "style", none(8)},
		{"</style x='", "style", none(11)},
		{"</p>", "p", is(end("p"), 4)},
		{"</p></p>", "P", is(end("p"), 4)},
		{"</1>", "1", is(comment("1"), 4)},
		{"</ >", " ", is(comment(" "), 4)},
		{"<//>", "/", is(comment("/"), 4)},
		{"</>>", ">", none(3)},
		{"</ü >", "ü", is(comment("ü "), 6)},
		{"</\xff/", "\xff", is(comment("\xff/"), 4)},
	} {
		wantNext(t, x.s, 0, x.raw, x.want)
		wantNext(t, "x"+x.s, 0, x.raw, is(rawText("x"), 1))
		x.want.behind++
		wantNext(t, "x"+x.s, 1, x.raw, x.want)
	}
}

// P10.2: an end of another raw element is none of this one; one ahead of at does not count.
func TestNextRawOthers(t *testing.T) {
	wantNext(t, "a</style></title>", 0, "title", is(rawText("a</style>"), 9))
	wantNext(t, "a</title></style>", 0, "style", is(rawText("a</title>"), 9))
	wantNext(t, "</style>a</style>", 8, "style", is(rawText("a"), 9))
	wantNext(t, "</style>a</style>", 1, "style", is(rawText("/style>a"), 9))
	wantNext(t, "</style>a", 2, "style", is(rawText("style>a"), 9))
	wantNext(t, "<script><!--<script></script>--></script>", 8, "script", is(rawText("<!--<script>"), 20))
	wantNext(t, "&lt;/title></title>", 0, "title", is(rawText("</title>"), 11))
	wantNext(t, " ", 0, "title", is(rawText(" "), 1))
	wantNext(t, " a  b ", 0, "style", is(rawText(" a  b "), 6))
	wantNext(t, "&amp &#32;&amp;lt;", 0, "textarea", is(rawText("&  &lt;"), 18))
	wantNext(t, "&notit", 0, "title", is(rawText("¬it"), 6))
}

// P10.2: texts of Blanks alone, of none of them, of both by turns, and with references.
func TestNextText(t *testing.T) {
	for _, x := range []struct {
		s    string
		at   int
		want said
	}{
		{"a", 0, is(text("a"), 1)},
		{"abc", 1, is(text("bc"), 3)},
		{"abc<d>", 0, is(text("abc"), 3)},
		{"ab c", 0, is(text("ab"), 2)},
		{"ab c", 2, is(text(" "), 3)},
		{"ab c", 3, is(text("c"), 4)},
		{" ", 0, is(text(" "), 1)},
		{"\t\n\f <", 0, is(text("\t\n\f "), 4)},
		{"\t\n\f a", 2, is(text("\f "), 4)},
		{" <b> ", 4, is(text(" "), 5)},
		{"a\rb\vc\u00a0d\u2003e", 0, is(text("a\rb\vc\u00a0d\u2003e"), 12)},
		{"\x00\xff\x7f", 0, is(text("\x00\xff\x7f"), 3)},
		{"ü€\U0001f333 x", 0, is(text("ü€🌳"), 9)},
		{"ü", 1, is(text("\xbc"), 2)},
		{"a>b\"c'd=e/f!g-h?i", 0, is(text("a>b\"c'd=e/f!g-h?i"), 17)},
		{">", 0, is(text(">"), 1)},
		{"&lt;b&gt;", 0, is(text("<b>"), 9)},
		{"&lt;b<b>", 0, is(text("<b"), 5)},
		{"&lt<b", 0, is(text("<"), 3)},
		{"a&#32;b c", 0, is(text("a b"), 7)},
		{"&#32;", 0, is(text(" "), 5)},
		{"&#9;&#10;&#12;&#x20; ", 0, is(text("\t\n\f "), 20)},
		{" &#32; ", 0, is(text(" "), 1)},
		{" &#32; ", 1, is(text(" "), 6)},
		{"&nbsp; ", 0, is(text("\u00a0"), 6)},
		{"& amp;", 0, is(text("&"), 1)},
		{"&#\n65;", 0, is(text("&#"), 2)},
		{"&#<65;", 0, is(text("&#"), 2)},
		{"&am p;", 0, is(text("&am"), 3)},
		{"&notit; x", 0, is(text("¬it;"), 7)},
		{"&notin;=", 0, is(text("∉="), 8)},
		{"&lt=1", 0, is(text("<=1"), 5)},
		{"&amp;amp;", 0, is(text("&amp;"), 9)},
		{"&amp;amp;", 2, is(text("mp;amp;"), 9)},
		{"&", 0, is(text("&"), 1)},
	} {
		wantNext(t, x.s, x.at, "", x.want)
		// What is answered does not hang on what was asked before (R4).
		wantNext(t, x.s, x.at, "", x.want)
	}
}

// P10.2: each byte, alone and behind each sort: Blanks are one sort, `<` is the end of either, all others are the other sort.
func TestNextTextEachByte(t *testing.T) {
	for c := range 256 {
		s := string([]byte{byte(c)})
		switch {
		case c == '<':
			wantNext(t, "a<", 0, "", is(text("a"), 1))
			wantNext(t, " <", 0, "", is(text(" "), 1))
		case strings.Contains(blanks, s):
			wantNext(t, s+"a", 0, "", is(text(s), 1))
			wantNext(t, s+" ", 0, "", is(text(s+" "), 2))
			wantNext(t, "a"+s, 0, "", is(text("a"), 1))
			wantNext(t, " "+s, 0, "", is(text(" "+s), 2))
		default:
			wantNext(t, s+"a", 0, "", is(text(s+"a"), 2))
			wantNext(t, s+" ", 0, "", is(text(s), 1))
			wantNext(t, "a"+s, 0, "", is(text("a"+s), 2))
			wantNext(t, " "+s, 0, "", is(text(" "), 1))
		}
	}
}

// P10.2: `<` at the end of s, and with each byte behind it.
func TestNextOpened(t *testing.T) {
	wantNext(t, "<", 0, "", is(text("<"), 1))
	wantNext(t, "a<", 1, "", is(text("<"), 2))
	for c := range 256 {
		s := string([]byte{byte(c)})
		switch {
		case c >= 'a' && c <= 'z', c >= 'A' && c <= 'Z':
			wantNext(t, "<"+s+">", 0, "", is(start(small(s)), 3))
			wantNext(t, "<"+s, 0, "", none(2))
		case c == '!':
			wantNext(t, "<!", 0, "", is(comment(""), 2))
			wantNext(t, "<!>", 0, "", is(comment(""), 3))
		case c == '?':
			wantNext(t, "<?", 0, "", is(comment("?"), 2))
			wantNext(t, "<?>", 0, "", is(comment("?"), 3))
		case c == '/':
			wantNext(t, "</", 0, "", is(text("<"), 1))
			wantNext(t, "</>", 0, "", none(3))
		default:
			wantNext(t, "<"+s, 0, "", is(text("<"), 1))
			wantNext(t, "<"+s+">", 0, "", is(text("<"), 1))
			wantNext(t, "<"+s+"a>", 0, "", is(text("<"), 1))
		}
	}
	wantNext(t, "< a>", 0, "", is(text("<"), 1))
	wantNext(t, "<<a>", 0, "", is(text("<"), 1))
	wantNext(t, "<<a>", 1, "", is(start("a"), 4))
	wantNext(t, "<&lt;", 0, "", is(text("<"), 1))
	wantNext(t, "<ü>", 0, "", is(text("<"), 1))
}

// P10.2: `</` with each byte behind it.
func TestNextOpenedEnd(t *testing.T) {
	for c := range 256 {
		s := string([]byte{byte(c)})
		switch {
		case c >= 'a' && c <= 'z', c >= 'A' && c <= 'Z':
			wantNext(t, "</"+s+">", 0, "", is(end(small(s)), 4))
			wantNext(t, "</"+s, 0, "", none(3))
		case c == '>':
			wantNext(t, "</>", 0, "", none(3))
			wantNext(t, "x</>>", 1, "", none(4))
		default:
			wantNext(t, "</"+s, 0, "", is(comment(s), 3))
			wantNext(t, "</"+s+">", 0, "", is(comment(s), 4))
			wantNext(t, "</"+s+"a b>c", 0, "", is(comment(s+"a b"), 7))
		}
	}
}

// P10.2: `<!` and `<?` with each byte behind it, with and without their end.
func TestNextOther(t *testing.T) {
	for c := range 256 {
		s := string([]byte{byte(c)})
		if c == '>' {
			continue
		}
		wantNext(t, "<!"+s, 0, "", is(comment(s), 3))
		wantNext(t, "<!"+s+">", 0, "", is(comment(s), 4))
		wantNext(t, "<?"+s, 0, "", is(comment("?"+s), 3))
		wantNext(t, "<?"+s+">x", 0, "", is(comment("?"+s), 4))
	}
	for _, x := range []struct {
		s    string
		want said
	}{
		{"<!-a-->b", is(comment("-a--"), 7)},
		{"<!->", is(comment("-"), 4)},
		{"<! -->x", is(comment(" --"), 6)},
		{"<!x y='>'>", is(comment("x y='"), 8)},
		{"<![CDATA[<a>]]>", is(comment("[CDATA[<a"), 12)},
		{"<!ELEMENT a>", is(comment("ELEMENT a"), 12)},
		{"<! doctype html>", is(comment(" doctype html"), 16)},
		{"<!doctyp html>", is(comment("doctyp html"), 14)},
		{"<!DOCTYP", is(comment("DOCTYP"), 8)},
		{"<!d>", is(comment("d"), 4)},
		{"<!&lt;>", is(comment("&lt;"), 7)},
		{"<?xml version=\"1\"?>\n", is(comment("?xml version=\"1\"?"), 19)},
		{"<?--a-->", is(comment("?--a--"), 8)},
		{"<?&amp;", is(comment("?&amp;"), 7)},
		{"</!-- a -->", is(comment("!-- a --"), 11)},
		{"</&gt;>", is(comment("&gt;"), 7)},
		{"</ >", is(comment(" "), 4)},
		{"<//>", is(comment("/"), 4)},
		{"</?>", is(comment("?"), 4)},
		{"</\n\xff\x00", is(comment("\n\xff\x00"), 5)},
		{"<?doctype a>", is(comment("?doctype a"), 12)},
		{"</doctype>", is(end("doctype"), 10)},
	} {
		wantNext(t, x.s, 0, "", x.want)
	}
}

// P10.2: comments: ended at once, by either end, at the end of s.
func TestNextComment(t *testing.T) {
	for _, x := range []struct {
		s    string
		want said
	}{
		{"<!-->", is(comment(""), 5)},
		{"<!-->-->", is(comment(""), 5)},
		{"<!--->", is(comment(""), 6)},
		{"<!--->-->", is(comment(""), 6)},
		{"<!---->", is(comment(""), 7)},
		{"<!----->", is(comment("-"), 8)},
		{"<!------>", is(comment("--"), 9)},
		{"<!----!>", is(comment(""), 8)},
		{"<!-----!>", is(comment("-"), 9)},
		{"<!--!>-->", is(comment("!>"), 9)},
		{"<!---!>-->", is(comment("-!>"), 10)},
		{"<!--a-->b", is(comment("a"), 8)},
		{"<!--a--!>b-->", is(comment("a"), 9)},
		{"<!--a-->b--!>", is(comment("a"), 8)},
		{"<!--a--->", is(comment("a-"), 9)},
		{"<!--a---!>", is(comment("a-"), 10)},
		{"<!--a--!->b-->", is(comment("a--!->b"), 14)},
		{"<!--a--!!>-->", is(comment("a--!!>"), 13)},
		{"<!--a-- >-->", is(comment("a-- >"), 12)},
		{"<!--a->b-->", is(comment("a->b"), 11)},
		{"<!--a>b-->", is(comment("a>b"), 10)},
		{"<!-- >-->", is(comment(" >"), 9)},
		{"<!-- ->-->", is(comment(" ->"), 10)},
		{"<!--<!--a-->-->", is(comment("<!--a"), 12)},
		{"<!--<b c=\"-->", is(comment("<b c=\""), 13)},
		{"<!--&lt;&amp-->", is(comment("&lt;&amp"), 15)},
		{"<!--ü\xff\x00\n-->", is(comment("ü\xff\x00\n"), 12)},
		{"<!--DocType-->", is(comment("DocType"), 14)},
		{"<!--", is(comment(""), 4)},
		{"<!---", is(comment(""), 5)},
		{"<!----", is(comment(""), 6)},
		{"<!-----", is(comment("-"), 7)},
		{"<!------", is(comment("--"), 8)},
		{"<!----!", is(comment(""), 7)},
		{"<!-----!", is(comment("-"), 8)},
		{"<!---!", is(comment("-!"), 6)},
		{"<!--!", is(comment("!"), 5)},
		{"<!--a", is(comment("a"), 5)},
		{"<!--a-", is(comment("a"), 6)},
		{"<!--a--", is(comment("a"), 7)},
		{"<!--a---", is(comment("a-"), 8)},
		{"<!--a--!", is(comment("a"), 8)},
		{"<!--a---!", is(comment("a-"), 9)},
		{"<!--a--!--!", is(comment("a--!"), 11)},
		{"<!--a--!-", is(comment("a--!"), 9)},
		{"<!--a--!--", is(comment("a--!"), 10)},
		{"<!--a-!", is(comment("a-!"), 7)},
		{"<!--a-- ", is(comment("a-- "), 8)},
		{"<!--a--!!", is(comment("a--!!"), 9)},
		{"<!-- >", is(comment(" >"), 6)},
		{"<!-- ->", is(comment(" ->"), 7)},
		{"<!--a--!!>", is(comment("a--!!>"), 10)},
	} {
		wantNext(t, x.s, 0, "", x.want)
		x.want.behind += 2
		wantNext(t, "--"+x.s, 2, "", x.want)
	}
}

// P10.2: doctypes: in any case, with and without Blanks, a name, an end.
func TestNextDoctype(t *testing.T) {
	for _, x := range []struct {
		s    string
		want said
	}{
		{"<!doctype html>", is(doctype("html"), 15)},
		{"<!DOCTYPE HTML>x", is(doctype("html"), 15)},
		{"<!DocType  Html x y>z", is(doctype("html"), 20)},
		{"<!dOCtYPe\t\n\f a\tb>", is(doctype("a"), 17)},
		{"<!doctype>", is(doctype(""), 10)},
		{"<!doctype >", is(doctype(""), 11)},
		{"<!doctype", is(doctype(""), 9)},
		{"<!doctype ", is(doctype(""), 10)},
		{"<!doctype \n", is(doctype(""), 11)},
		{"<!doctypea", is(doctype("a"), 10)},
		{"<!doctypeHTML>", is(doctype("html"), 14)},
		{"<!doctype html", is(doctype("html"), 14)},
		{"<!doctype html ", is(doctype("html"), 15)},
		{"<!doctype html public \"-//W3C//DTD", is(doctype("html"), 34)},
		{"<!doctype html PUBLIC \"a>b\">", is(doctype("html"), 25)},
		{"<!doctype \"A='B/<c>", is(doctype("\"a='b/<c"), 19)},
		{"<!doctype/ >", is(doctype("/"), 12)},
		{"<!doctype-->", is(doctype("--"), 12)},
		{"<!doctype ÄÖ\xffK>", is(doctype("ÄÖ\xffk"), 17)},
		{"<!doctype &lt;>", is(doctype("&lt;"), 15)},
		{"<!doctype a\r\x00b>", is(doctype("a\r\x00b"), 15)},
		{"<!doctypedoctype>", is(doctype("doctype"), 17)},
		{"<!doctype html><p>", is(doctype("html"), 15)},
	} {
		wantNext(t, x.s, 0, "", x.want)
		x.want.behind += 3
		wantNext(t, "<p>"+x.s, 3, "", x.want)
	}
}
