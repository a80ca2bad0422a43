package parse_test

import (
	"strings"
	"testing"

	"topiary/api"
	"topiary/parse"
)

// The examples of the document's first page, as far as this layer says them.
func TestParseExamples(t *testing.T) {
	cases{
		{"<p>a<p>b", "p('a') p('b')"},
		{"<b>1<i>2</b>3", "b('1' i('2')) i('3')"},
		{"<table>x<tr><td>y", "'x' table(tbody(tr(td('y'))))"},
		{"&notit;", "'¬it;'"},
	}.run(t, wantBody)
}

// P15.1: sources of all sorts: a whole page, one whose tags are all left out, names in any case, references, raw elements, what never ends.
func TestParseSources(t *testing.T) {
	cases{
		{"", "(html(head body))"},
		{"<!DOCTYPE html><html><head><title>t</title></head><body><p>a</p></body></html>", "(^html html(head(title('t')) body(p('a'))))"},
		{"<!doctype HTML public><!--c--><HTML b=1 a=2>\n<Head>\n<Title>a<b>&lt;</TITLE>\n</head>\n<body>\n<P>x</p>\n</body>\n</html>\n", "(^html !c! html a=2 b=1(head('\n' title('a<b><') '\n') '\n' body('\n' p('x') '\n\n\n')))"},
		{"<title>t</title><p>x", "(html(head(title('t')) body(p('x'))))"},
		{"<html a=1><html a=2 b=3><body c=1><body c=2 d=3>", "(html a=1 b=3(head body c=1 d=3))"},
		{"x</body><!--c-->", "(html(head body('x') !c!))"},
		{"x</html><!--c-->y", "(html(head body('xy') !c!))"},
		{"<script>a<p>&lt;</script>b", "(html(head(script('a<p>&lt;')) body('b')))"},
	}.run(t, wantTree)
	cases{
		{"a b\tc", "'a b\tc'"},
		{"<p>a<b>b<p>c", "p('a' b('b')) p(b('c'))"},
		{"<a href=\"x&amp;y\" HREF=z b>z", "a b= href=x&y('z')"},
		{"a</>b", "'ab'"},
		{"a<b c", "'a'"},
		{"1 < 2", "'1 < 2'"},
		{"<textarea>\n\n<b></textarea><i>", "textarea('\n<b>') i"},
		{"<p>&lt;b&gt;<!--&lt;-->", "p('<b>' !&lt;!)"},
		{"<plaintext><b>x", "plaintext(b('x'))"},
	}.run(t, wantBody)
}

// P15.1: lines' ends of all three sorts are one byte, in texts, values, comments and raw elements; they are Blanks in tags.
func TestParseLineEnds(t *testing.T) {
	for _, end := range []string{"\n", "\r", "\r\n"} {
		wantBody(t, "a"+end+"b"+end, "'a\nb\n'")
		wantBody(t, "a"+end+" "+end+end+"b", "'a\n \n\nb'")
		wantBody(t, end+" "+end, "")
		wantBody(t, "x<p"+end+"a=\"1"+end+"2\""+end+">y", "'x' p a=1\n2('y')")
		wantBody(t, "x<!--a"+end+"b-->", "'x' !a\nb!")
		wantBody(t, "<pre>"+end+"x"+end+"</pre>", "pre('x\n')")
		wantBody(t, "<pre>"+end+end+"x</pre>", "pre('\nx')")
		wantBody(t, "<textarea>"+end+"x"+end+"y</textarea>", "textarea('x\ny')")
		wantTree(t, "<!doctype"+end+"x"+end+">"+end+"<style"+end+">"+end+"</style"+end+">", "(^x html(head(style('\n')) body))")
	}
	wantBody(t, "x\n\ry", "'x\n\ny'")
	wantBody(t, "x\r\r\ny", "'x\n\ny'")
	wantBody(t, "x&#13;y", "'x\ry'")
}

// P15.1: a byte 0, and bytes at which no rune in its shortest form begins, are the rune fffd each, wherever they stand; what ends a tag does so behind them, too.
func TestParseNoRunes(t *testing.T) {
	for _, c := range []struct {
		s string
		n int
	}{
		{"\x00", 1}, {"\x00\x00", 2}, {"\xff", 1}, {"\x80", 1}, {"\xc3", 1}, {"\xe2\x82", 2}, {"\xc0\x80", 2}, {"\xed\xa0\x80", 3}, {"\xf4\x90\x80\x80", 4}, {"\xf0\x80\x80\xaf", 4}, {"\ufffd", 1}, {"\xc3\x00", 2},
	} {
		is := strings.Repeat("\ufffd", c.n)
		wantBody(t, c.s, "'"+is+"'")
		wantBody(t, "a"+c.s+"<p>", "'a"+is+"' p")
		wantBody(t, "<p"+c.s+" q"+c.s+"="+c.s+">"+c.s+"<!--"+c.s+"-->", "p"+is+" q"+is+"="+is+"('"+is+"' !"+is+"!)")
		wantTree(t, "<!doctype "+c.s+"><title>"+c.s+"</title>", "(^"+is+" html(head(title('"+is+"')) body))")
		wantBody(t, "a<"+c.s+"p>", "'a<"+is+"p>'")
	}
	wantBody(t, "ü€\U0001f333\x7f\x01\ufeff", "'ü€\U0001f333\x7f\x01\ufeff'")
	wantBody(t, "&#0;&#xd800;", "'\ufffd\ufffd'")
}

// P15.1: as many bytes as may be, and one more, whatever they say; they count as they are handed in.
func TestParseMaxSource(t *testing.T) {
	for _, c := range []struct{ ahead, fill, behind, want string }{
		{"", " ", "", ""},
		{"", "\n", "", ""},
		{" ", "\r", "", ""},
		{"", " ", "<p>", "p"},
		{"<p", " ", ">x", "p('x')"},
		{"<p ", "a", ">x", "p('x')"},
		{"<p ", "\x00", ">x", "p('x')"},
		{"<p ", "\xff", ">x", "p('x')"},
		{"x</p ", "a", "", "'x'"},
		{"<", "a", ">x", "'x'"},
		{"x<", "a", "", "'x'"},
		{"</", "a", ">x", "'x'"},
	} {
		wantBody(t, filled(c.ahead, c.fill, c.behind, api.MaxSource-1), c.want)
		wantBody(t, filled(c.ahead, c.fill, c.behind, api.MaxSource), c.want)
		wantErr(t, filled(c.ahead, c.fill, c.behind, api.MaxSource+1), api.ErrBig)
		wantErr(t, filled(c.ahead, c.fill, c.behind, 2*api.MaxSource), api.ErrBig)
	}
	half := strings.Repeat("x", api.MaxText)
	two := half + "<p>" + half[3:]
	wantBody(t, two, "'"+half+"' p('"+half[3:]+"')")
	wantErr(t, two+" ", api.ErrBig)
	// Fewer than may be when they are clean, but not as they are handed in.
	lines := strings.Repeat("\r\n", api.MaxSource/2)
	wantBody(t, lines, "")
	wantErr(t, lines+"\n", api.ErrBig)
	wantErr(t, lines+lines, api.ErrBig)
	// Runes are not what counts.
	signs := filled("", " ", "<p "+strings.Repeat("€", 1000)+">", api.MaxSource)
	wantBody(t, signs, "p")
	wantErr(t, " "+signs, api.ErrBig)
	wantErr(t, strings.Repeat(" ", 1<<24), api.ErrBig)
}

// wantEdge holds the answers to as many of a part as may be, and to one more, against what they should be.
func wantEdge(t *testing.T, want func(*testing.T, string, api.Errno), ahead, part, behind string, most int) {
	t.Helper()
	for _, n := range []int{1, most - 1, most} {
		want(t, ahead+strings.Repeat(part, n)+behind, api.OK)
	}
	for _, n := range []int{most + 1, most + 2} {
		want(t, ahead+strings.Repeat(part, n)+behind, api.ErrBig)
	}
}

// P15.1: trees of as many nodes and as deep as may be, and one more. The Root, html, head and body are four of the nodes; the Root, html and body three of the depth.
func TestParseTooManyTooDeep(t *testing.T) {
	wantEdge(t, wantErr, "", "<br>", "", api.MaxNodes-4)
	wantEdge(t, wantErr, "", "<!---->", "", api.MaxNodes-4)
	wantEdge(t, wantErr, "<!doctype html>", "<hr>", "", api.MaxNodes-5)
	wantEdge(t, wantErr, "", "<meta>", "", api.MaxNodes-4)
	wantEdge(t, wantErr, "", "<p>", "", api.MaxNodes-4)
	wantEdge(t, wantErr, "<p>", "x<br>", "", (api.MaxNodes-5)/2)
	wantEdge(t, wantErr, "<table>", "<tr>", "", api.MaxNodes-6)
	wantEdge(t, wantErr, "<p><b><i></p>", "<p>x</p>", "", (api.MaxNodes-7)/4)
	for _, part := range []string{"<div>", "<b>", "<i x>", "<unknown>"} {
		wantEdge(t, wantErr, "", part, "", api.MaxDepth-3)
		wantEdge(t, wantErr, "", part, "x", api.MaxDepth-4)
		wantEdge(t, wantErr, "", part, "<!---->", api.MaxDepth-4)
	}
}

// P15.1: texts, comments, values and a doctype's name as long as may be, and a byte more, as they are when they are read; as many attributes as may be, and one more.
func TestParseTooGreat(t *testing.T) {
	for _, c := range []struct{ ahead, behind string }{
		{"", ""}, {"<p>", "</p>"}, {"<title>", "</title>"}, {"<style>", ""}, {"<textarea>", "</textarea>"}, {"<textarea>\n", ""}, {"<table><td>", ""}, {"<table>", ""},
		{"<!--", "-->"}, {"a<!--", ""}, {"<p><!", ">"}, {"</p></ ", ">"},
		{"<p a=", ">"}, {"<br a=\"", "\">"}, {"<html b=1><html a='", "'>"}, {"<body a=", ">"}, {"<meta a=", ">"},
	} {
		most := api.MaxText
		if strings.HasSuffix(c.ahead, "</ ") {
			most-- // the Blank is a part of the comment
		}
		wantEdge(t, wantErr, c.ahead, "x", c.behind, most)
		wantEdge(t, wantErr, c.ahead, "\xff", c.behind, most/3)
	}
	wantEdge(t, wantErr, "a", "\r\n", "", api.MaxText-1)
	wantEdge(t, wantErr, "<p>"+strings.Repeat("x", api.MaxText-1000), "&lt", ";", 1000)
	wantEdge(t, wantErr, "<p>", "0123456789</>", "<br>", api.MaxText/10)
	wantEdge(t, wantErr, "<!doctype ", "X", ">", api.MaxName)
	wantEdge(t, wantErr, "<!doctype", "x", "", api.MaxName)

	attrs := " a b c d e f g h i j k l"
	for _, name := range []string{"p", "br", "html", "head", "body", "b", "table", "meta", "title", "unknown"} {
		wantErr(t, "<"+name+attrs+">", api.OK)
		wantErr(t, "<"+name+attrs+" A=1 l=2>", api.OK)
		wantErr(t, "<"+name+attrs+" m>", api.ErrBig)
	}
	wantErr(t, "<html"+attrs+"><html a m>", api.ErrBig)
	wantErr(t, "<body"+attrs+"><body m>", api.ErrBig)
}

// P15.1: what is too great, but not in the tree, is not refused: names of elements and of attributes that are passed by, what is dropped.
func TestParseTooGreatButDropped(t *testing.T) {
	name, long := strings.Repeat("n", api.MaxName), strings.Repeat("x", api.MaxText+1)
	attrs := " a b c d e f g h i j k l m n o p"
	cases{
		{"<" + name + ">x", name + "('x')"},
		{"<" + name + "n>x", "'x'"},
		{"<p " + name + "=1 " + name + "n=2>x", "p " + name + "=1('x')"},
		{"</p " + long + ">x", "p 'x'"},
		{"x</i" + attrs + ">", "'x'"},
		{"x<td" + attrs + " z=" + long + ">", "'x'"},
		{"x<!doctype " + long + ">", "'x'"},
		{"<table><script></script " + long, "table(script)"},
		{strings.Repeat("</b>", 2*api.MaxNodes) + "x", "'x'"},
	}.run(t, func(t *testing.T, s, want string) {
		t.Helper()
		wantBody(t, "<body>"+s, want)
	})
}

// P15.1, R3, R4: what is answered is new memory, no two lists of it share any, and each answer is the same.
func TestParseNewMemory(t *testing.T) {
	s := "<!doctype x><html a=1 b=2><html c=3><body a=1><p a=1><b a=1 b=2><i c=1></p>x<p>y</b>z<table a=1><td><u a=1><div>q</u></table>"
	one, e := parse.Parse(s)
	two, f := parse.Parse(s)
	want := show(two)
	if e != api.OK || f != api.OK || show(one) != want {
		t.Fatal(e, f, show(one), want)
	}
	if spoil([]api.Tree{one}) {
		t.Error("two lists of one answer share memory")
	}
	three, _ := parse.Parse(s)
	if show(two) != want || show(three) != want {
		t.Errorf("an answer was changed by way of another one: %s, %s", show(two), show(three))
	}
}
