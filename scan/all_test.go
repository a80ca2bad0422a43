package scan_test

import (
	"strings"
	"testing"

	"topiary/api"
	"topiary/scan"
)

// source is a source and all its pieces but the last one.
type source struct {
	s    string
	want []api.Token
}

// is is a source with its pieces.
func is(s string, want ...api.Token) source { return source{s, want} }

// P11.1: the chapter's example.
func TestAllExample(t *testing.T) {
	l := scan.All("")
	if len(l) != 1 || l[0].Kind != api.TokEnd0 || !same(l, []api.Token{{Kind: 6}}) {
		t.Errorf("All of nothing = %v", l)
	}
}

// closed are sources that end where their last piece does, in whatever comes next; two texts of one sort do not stand behind one another.
func closed() []source {
	return []source{
		is("<p>", start("p")),
		is("<A B=1 b=2 a='&lt;'>", start("a", "a", "<", "b", "1")),
		is("<p/>", start("p")),
		is("</p>", end("p")),
		is("</P x=1>", end("p")),
		is("<!---->", comment("")),
		is("<!--<p>&lt;</title>-->", comment("<p>&lt;</title>")),
		is("<!x>", comment("x")),
		is("<?x>", comment("?x")),
		is("</ x>", comment(" x")),
		is("<!doctype html>", doctype("html")),
		is("<!DOCTYPE HTML x>", doctype("html")),
		is("</>"),
		is("<title></title>", start("title"), end("title")),
		is("<Title>a <b>&lt;</B></TITLE>", start("title"), rawText("a <b><</B>"), end("title")),
		is("<script x=y><p>&lt; </script\n>", start("script", "x", "y"), rawText("<p>&lt; "), end("script")),
		is("</title>", end("title")),
	}
}

// P11.1: pieces of each sort alone, one behind the other, and three of them; with texts around them.
func TestAllClosed(t *testing.T) {
	l := closed()
	for _, a := range l {
		wantAll(t, a.s, a.want...)
		around := append([]api.Token{text("x"), text(" ")}, a.want...)
		wantAll(t, "x "+a.s+" y", append(around, text(" "), text("y"))...)
		for _, b := range l {
			both := append(a.want[:len(a.want):len(a.want)], b.want...)
			wantAll(t, a.s+b.s, both...)
			for _, c := range l {
				wantAll(t, a.s+b.s+c.s, append(both[:len(both):len(both)], c.want...)...)
			}
		}
	}
}

// P11.1: texts, and what stands in them.
func TestAllTexts(t *testing.T) {
	for _, x := range []source{
		is("a", text("a")),
		is(" ", text(" ")),
		is("a b", text("a"), text(" "), text("b")),
		is(" \t\f\na ", text(" \t\f\n"), text("a"), text(" ")),
		is("&lt;&#32; &amp", text("< "), text(" "), text("&")),
		is("&notit;", text("¬it;")),
		is("<", text("<")),
		is("</", text("<"), text("/")),
		is("<<p>", text("<"), start("p")),
		is("a< b", text("a"), text("<"), text(" "), text("b")),
		is("1<2", text("1"), text("<"), text("2")),
		is(">", text(">")),
		is("&lt<p>;", text("<"), start("p"), text(";")),
		is("ü€\U0001f333", text("ü€🌳")),
		is("<p>a<p>b", start("p"), text("a"), start("p"), text("b")),
		is("<b>1<i>2</b>3", start("b"), text("1"), start("i"), text("2"), end("b"), text("3")),
		is("<!--a", comment("a")),
		is("x<!", text("x"), comment("")),
		is("<!doctype", doctype("")),
		is("<p>\n</p>\n", start("p"), text("\n"), end("p"), text("\n")),
	} {
		wantAll(t, x.s, x.want...)
		// What is answered does not hang on what was asked before (R4).
		wantAll(t, x.s, x.want...)
	}
}

// P11.1: sources that are not clean, in texts, names, values, comments, doctypes and raw elements; a byte 10 from a byte 13 is a Blank.
func TestAllNotClean(t *testing.T) {
	for _, x := range []source{
		is("a\r\nb", text("a"), text("\n"), text("b")),
		is("a\rb", text("a"), text("\n"), text("b")),
		is("a\n\r\r\n\n\rb", text("a"), text("\n\n\n\n\n"), text("b")),
		is("\r", text("\n")),
		is("\r\n", text("\n")),
		is("\x00", text("\ufffd")),
		is("a\x00 \x00b", text("a\ufffd"), text(" "), text("\ufffdb")),
		is("\xff\xfe", text("\ufffd\ufffd")),
		is("a\xc3", text("a\ufffd")),
		is("\xe2\x82<p>\xac", text("\ufffd\ufffd"), start("p"), text("\ufffd")),
		is("\xed\xa0\x80", text("\ufffd\ufffd\ufffd")),
		is("\xc0\xbcp>", text("\ufffd\ufffdp>")),
		is("<a\rb\r\n=\r\"c\r\nd\re\x00\xff\">", start("a", "b", "c\nd\ne\ufffd\ufffd")),
		is("<a\x00 b\xff=1>", start("a\ufffd", "b\ufffd", "1")),
		is("</p\r>", end("p")),
		is("<!--a\r\nb\rc\x00\xff-->", comment("a\nb\nc\ufffd\ufffd")),
		is("<?a\r\n\x00>", comment("?a\n\ufffd")),
		is("<!doctype\ra\x00\r\n>", doctype("a\ufffd")),
		is("<title>a\r\nb\r\x00\xff&lt;</title\r>c", start("title"), rawText("a\nb\n\ufffd\ufffd<"), end("title"), text("c")),
		is("<style>\r\n\r\x00\xff&lt;</style\r\n>c", start("style"), rawText("\n\n\ufffd\ufffd&lt;"), end("style"), text("c")),
		is("<title\x00></title>", start("title\ufffd"), end("title")),
		is("<\x00p>", text("<"), text("\ufffdp>")),
		is("</\r>", comment("\n")),
		is("&#13;&#0;", text("\r\ufffd")),
	} {
		wantAll(t, x.s, x.want...)
	}
}

// P11.1: what says nothing, at the beginning, in the middle and at the end: nothing is told of it.
func TestAllSaysNothing(t *testing.T) {
	for _, x := range []source{
		is("</>"),
		is("</></></>"),
		is("</>a", text("a")),
		is("a</>", text("a")),
		is("a</>b", text("a"), text("b")),
		is(" </> ", text(" "), text(" ")),
		is("<p></></p>", start("p"), end("p")),
		is("</>>", text(">")),
		is("a</></>b</>", text("a"), text("b")),
		is("<!doctype x><!--c--></>d", doctype("x"), comment("c"), text("d")),
		is("<a"),
		is("a<b", text("a")),
		is("a<b c", text("a")),
		is("a<b c='>d<e>", text("a")),
		is("a</b", text("a")),
		is("<p>a</p x=\"><i>b", start("p"), text("a")),
		is("</><a b=c"),
		is("<title"),
		is("a<title b", text("a")),
		is("<title></>", start("title"), rawText("</>")),
		is("<title></></title></>x", start("title"), rawText("</>"), end("title"), text("x")),
		is("<title>a</title ", start("title"), rawText("a")),
		is("<title>a</title b='></title>", start("title"), rawText("a")),
		is("<title></title/", start("title")),
	} {
		wantAll(t, x.s, x.want...)
	}
}

// P11.1: each raw element: its end tag in any case and form, tags of all sorts in it, nothing in it, no end tag, another one's end, one behind another one.
func TestAllRaw(t *testing.T) {
	for name, sort := range rawNames {
		great := strings.ToUpper(name)
		mixed := strings.ToUpper(name[:2]) + name[2:]
		inside := "a <b c=1>&lt;</b><!-- </p> --><" + name + "><p></></" + name + "s></" + name[1:] + "></ " + name + "><!doctype x>\n"
		read := inside
		if sort == 1 {
			read = strings.ReplaceAll(inside, "&lt;", "<")
		}
		for _, open := range []string{name, great, mixed} {
			for _, shut := range []string{name, great, mixed} {
				for _, behind := range []string{">", " >", "\n>", "\t\f>", "/>", " x=1>", "/ y='>'>"} {
					wantAll(t, "<"+open+">"+inside+"</"+shut+behind+"&lt;<i>z", start(name), rawText(read), end(name), text("<"), start("i"), text("z"))
					wantAll(t, "<"+open+"></"+shut+behind+"&lt;<i>z", start(name), end(name), text("<"), start("i"), text("z"))
				}
			}
		}
		wantAll(t, "<"+name+">"+inside, start(name), rawText(read))
		wantAll(t, "<"+name+">"+inside+"</"+name, start(name), rawText(read+"</"+name))
		wantAll(t, "<"+name+">", start(name))
		wantAll(t, "<"+name+"/>x<b>", start(name), rawText("x<b>"))
		wantAll(t, "<"+name+" a='"+name+"'> ", start(name, "a", name), rawText(" "))
		wantAll(t, "<"+name+"><"+name+">x</"+name+"><i></"+name+">", start(name), rawText("<"+name+">x"), end(name), start("i"), end(name))
		wantAll(t, "<"+name+"s>&amp;<i>", start(name+"s"), text("&"), start("i"))
		wantAll(t, "</"+name+">a<b>", end(name), text("a"), start("b"))
		wantAll(t, "<!--<"+name+">--><b>", comment("<"+name+">"), start("b"))
	}
}

// P11.1: two raw elements: an end tag of another name in one, and behind its own; one behind another one's end.
func TestAllTwoRaw(t *testing.T) {
	for a := range rawNames {
		for b := range rawNames {
			wantAll(t, "<"+a+">x</"+a+"><"+b+"><y></"+b+"><z>", start(a), rawText("x"), end(a), start(b), rawText("<y>"), end(b), start("z"))
			wantAll(t, "<"+a+"></"+a+"></"+b+"><"+b+"><y>", start(a), end(a), end(b), start(b), rawText("<y>"))
			wantAll(t, "<"+a+">x</"+a+"><p></"+b+"><y>", start(a), rawText("x"), end(a), start("p"), end(b), start("y"))
			wantAll(t, "<"+a+"></"+a+"><p></"+a+"><"+b+"><y></"+b+"><y>", start(a), end(a), start("p"), end(a), start(b), rawText("<y>"), end(b), start("y"))
			if a != b {
				wantAll(t, "<"+a+"><"+b+"></"+b+"></p></"+a+">x<y>", start(a), rawText("<"+b+"></"+b+"></p>"), end(a), text("x"), start("y"))
			}
		}
	}
}

// P11.1: elements that are not raw, though one might think so: tags stand in them.
func TestAllNotRaw(t *testing.T) {
	for _, name := range []string{"p", "plaintext", "noscript", "template", "listing", "pre", "head", "svg", "frame", "embed", "select", "option"} {
		wantAll(t, "<"+name+">&lt;<b></i></"+name+">", start(name), text("<"), start("b"), end("i"), end(name))
	}
}

// P11.1: TokEnd0 is the last one, and there once.
func TestAllEnd(t *testing.T) {
	seed := uint64(3)
	for range 500 {
		s := drawn(&seed)
		l := scan.All(s)
		for i, x := range l {
			if (x.Kind == api.TokEnd0) != (i == len(l)-1) || x.Kind < api.TokStart || x.Kind > api.TokEnd0 {
				t.Fatalf("All(%q): piece %d of %d is of the kind %d", s, i, len(l), x.Kind)
			}
		}
		if last := l[len(l)-1]; !same([]api.Token{last}, []api.Token{end0}) {
			t.Fatalf("All(%q) ends with %v", s, last)
		}
	}
}

// parts are what drawn sources are made of.
var parts = []string{
	"a", "b c", " ", "\n", "\r", "\r\n", "\x00", "\xff", "\xc3", "ü", "&lt;", "&notit", "&", "<", "</", "<!", "<?", ">", "/", "=", "'", "\"", "</>", "<!---->", "<!--", "-->", "<!--x-->", "<!doctype html>", "<!doctype", "<p>", "</p>", "<p", "</p", "<B x=1 y='2'>", "<title>", "</title>", "<TITLE>", "</Title ", "</title", "<textarea>", "</TEXTAREA>", "<style>", "</style>", "<script x>", "</script/>", "</scriptx>", "<xmp>", "</xmp>", "<iframe>", "</iframe\n>",
}

// drawn is a source of some parts.
func drawn(seed *uint64) string {
	var s strings.Builder
	for range draw(seed) % 16 {
		s.WriteString(parts[draw(seed)%uint64(len(parts))])
	}
	return s.String()
}

// P11.1: all sources of up to three parts, and drawn ones, against the second reading.
func TestAllSecond(t *testing.T) {
	for _, a := range parts {
		for _, b := range parts {
			for _, c := range append([]string{""}, parts...) {
				wantSecond(t, a+b+c)
			}
		}
	}
	seed := uint64(11)
	for range 20000 {
		wantSecond(t, drawn(&seed))
	}
}

// P11.1: all sources of up to six of the signs that tags and a raw element's end are made of, against the second reading.
func TestAllShort(t *testing.T) {
	signs := []string{"<", "/", ">", "xmp", "XMP ", "!"}
	var grow func(s string, more int)
	grow = func(s string, more int) {
		wantSecond(t, s)
		if more > 0 {
			for _, c := range signs {
				grow(s+c, more-1)
			}
		}
	}
	grow("", 6)
	grow("<xmp>", 6)
}

// R3: what is answered is new memory, with its spare room; no two lists of one answer share any.
func TestAllNewMemory(t *testing.T) {
	s := "<a c=1 b=2 d=3><a b=1><a><p x=y>"
	want := []api.Token{start("a", "b", "2", "c", "1", "d", "3"), start("a", "b", "1"), start("a"), start("p", "x", "y"), end0}
	one, two := scan.All(s), scan.All(s)
	for i, x := range one {
		l := x.Attrs[:cap(x.Attrs)]
		for j := range l {
			l[j] = api.Attr{Name: "z", Value: "z"}
		}
		if !same(one[i+1:], want[i+1:]) {
			t.Fatalf("the attributes of piece %d are also another one's", i)
		}
	}
	clear(one[:cap(one)])
	if !same(two, want) || !same(scan.All(s), want) {
		t.Errorf("an answer was changed by way of another one: %v", two)
	}
}

// R1: long sources, beyond MaxSource too.
func TestAllLong(t *testing.T) {
	const n = 20000
	for _, x := range []struct {
		part string
		each int
	}{
		{"<p>", 1}, {"</p>", 1}, {"a ", 2}, {"</>", 0}, {"<!---->", 1}, {"<a b='c'>", 1}, {"<title></title>", 2}, {"<xmp>x</XMP>", 3}, {"< ", 2}, {"\x00\r", 2}, {"</title>", 1},
	} {
		if l := scan.All(strings.Repeat(x.part, n)); len(l) != n*x.each+1 {
			t.Errorf("All of %d %q: %d pieces", n, x.part, len(l))
		}
	}
	wantAll(t, "<title>"+strings.Repeat("<title>", n), start("title"), rawText(strings.Repeat("<title>", n)))
	wantAll(t, strings.Repeat("<p ", n))
	wantAll(t, strings.Repeat("a", api.MaxSource+1), text(strings.Repeat("a", api.MaxSource+1)))
	wantAll(t, "<"+strings.Repeat("a", n)+">", start(strings.Repeat("a", n)))
}
