package parse_test

import (
	"slices"
	"strings"
	"testing"

	"topiary/api"
	"topiary/parse"
)

// ahead is what the chapter says to stand ahead of a part.
const ahead = "<!DOCTYPE html><html><head></head><body>"

// P15.1: the chapter's example.
func TestPartExample(t *testing.T) {
	l, e := parse.Part("a<b>c")
	if e != api.OK || len(l) != 2 || l[0].Kind != api.Text || l[1].Kind != api.Element || l[1].Name != "b" {
		t.Error(l, e)
	}
}

// P15.1: parts of all sorts: nothing, texts, elements, comments, tables, raw elements, what never ends.
func TestPartNodes(t *testing.T) {
	cases{
		{"", ""},
		{" ", "' '"},
		{"\n a ", "'\n a '"},
		{"a\r\nb\rc\x00\xff", "'a\nb\nc\ufffd\ufffd'"},
		{"a<b>c", "'a' b('c')"},
		{"<p>a<p>b", "p('a') p('b')"},
		{"<b>1<i>2</b>3", "b('1' i('2')) i('3')"},
		{"&notit;", "'¬it;'"},
		{"<!--c-->", "!c!"},
		{"<!doctype x>a", "'a'"},
		{"</>", ""},
		{"<b c", ""},
		{"a<", "'a<'"},
		{"</p>", "p"},
		{"</head>a", "'a'"},
		{"<table>x<tr><td>y", "'x' table(tbody(tr(td('y'))))"},
		{"<table a=1><caption>c</table>d", "table a=1(caption('c')) 'd'"},
		{"<td>x<tr>y", "'xy'"},
		{"<title>q", "title('q')"},
		{"<title>a<b>&lt;</TITLE>c", "title('a<b><') 'c'"},
		{"<script>a<b>&lt;</script>c", "script('a<b>&lt;') 'c'"},
		{"<style></body></style>c", "style('</body>') 'c'"},
		{"<textarea>\n</html><!--c-->", "textarea('</html><!--c-->')"},
		{"<xmp></body><!--c-->", "xmp('</body><!--c-->')"},
		{"<meta><link><base>", "meta link base"},
		{"<plaintext><b></body>", "plaintext(b)"},
	}.run(t, wantPart)
}

// P15.1: start tags of html, head and body in a part: what they say of attributes is not in the body.
func TestPartStartTags(t *testing.T) {
	cases{
		{"<html>", ""},
		{"<html a=1>x", "'x'"},
		{"x<html a=1>y", "'xy'"},
		{"<head>x", "'x'"},
		{"<head a=1><title>t</title></head>x", "title('t') 'x'"},
		{"<body>", ""},
		{"<body a=1>x", "'x'"},
		{"<p>x<body a=1>y", "p('xy')"},
		{ahead, ""},
		{ahead + "x", "'x'"},
		{"<!doctype html><html a=1><head><meta></head> <body b=2><p>x</p></body></html>", "meta ' ' p('x')"},
		{"<frameset><frame>x", "'x'"},
	}.run(t, wantPart)
	got, _ := parse.Parse(ahead + "<html a=1><body b=2>")
	if want := "(^html html a=1(head body b=2))"; show(got) != want {
		t.Errorf("%s, want %s", show(got), want)
	}
}

// P15.1: the end of the body or the html in the midst of a part: texts and tags behind it are in the body again; by a comment the last kid of html is no body, and there is none of its nodes.
func TestPartEnds(t *testing.T) {
	for _, end := range []string{"</body>", "</html>", "</body></html>", "</BODY x=1>", "</body> "} {
		blank := strings.Repeat(" ", strings.Count(end, "> "))
		inBody := func(s string) string {
			if s += blank; s == "" {
				return ""
			}
			return "'" + s + "'"
		}
		cases{
			{end, inBody("")},
			{"a" + end, inBody("a")},
			{"a" + end + "b", "'a" + blank + "b'"},
			{"a" + end + " ", "'a" + blank + " '"},
			{"a" + end + "<b>c", inBody("a") + " b('c')"},
			{"a" + end + "<!doctype x></p><body c=1>", inBody("a") + " p"},
			{"a" + end + "b" + end, "'a" + blank + "b" + blank + "'"},
			{"<p>a" + end + "b", "p('a" + blank + "b')"},
			// Not behind the body: what comes ahead of the comment has led back into it.
			{"a" + end + "b<!--c-->", "'a" + blank + "b' !c!"},
			{"a" + end + "<b><!--c-->", inBody("a") + " b(!c!)"},
			// Not an end: a part of a table and a raw element have none of the body.
			{"<table><td>a" + end + "<!--c-->", "table(tbody(tr(td('a" + blank + "' !c!))))"},
			{"<title>" + end + "</title><!--c-->", "title('" + end + "') !c!"},
			// Behind the body.
			{end + "<!--c-->", ""},
			{"a" + end + "<!--c-->", ""},
			{"a" + end + "<!---->", ""},
			{"a" + end + "<!c>", ""},
			{"a" + end + "<?c>", ""},
			{"a" + end + "</ c>", ""},
			{"a" + end + " <!--c-->", ""},
			{"a" + end + "<!--c-->b", ""},
			{"a" + end + "<!--c--><p>b", ""},
			{"a" + end + "<!--c--><body><html>b" + end, ""},
			{"<p>a" + end + "<!--c--><!--d--><table>", ""},
			{"<p><b>a" + end + "b" + end + "<!--c-->", ""},
		}.run(t, wantPart)
	}
}

// P15.1: as many bytes as go with what stands ahead of them into MaxSource, and one more; the nodes ahead of them count as well.
func TestPartTooBig(t *testing.T) {
	most := api.MaxSource - len(ahead)
	for _, c := range []struct{ ahead, fill, behind, want string }{
		{"<p", " ", ">x", "p('x')"},
		{"<p ", "\x00", ">x", "p('x')"},
		{"x<", "a", "", "'x'"},
		{"x</", "a", ">", "'x'"},
		{"x</body", "\r", "><!---->", ""},
	} {
		wantPart(t, filled(c.ahead, c.fill, c.behind, most-1), c.want)
		wantPart(t, filled(c.ahead, c.fill, c.behind, most), c.want)
		for _, n := range []int{most + 1, most + 2, api.MaxSource, api.MaxSource + 1, 3 * api.MaxSource, 1 << 24} {
			wantPartErr(t, filled(c.ahead, c.fill, c.behind, n), api.ErrBig)
		}
	}
	lines := strings.Repeat("\r\n", api.MaxText)
	wantPart(t, lines[:most], "'"+strings.Repeat("\n", most/2)+"'")
	wantPartErr(t, lines[:most+1], api.ErrBig)

	wantEdge(t, wantPartErr, "", "<br>", "", api.MaxNodes-5)
	wantEdge(t, wantPartErr, "", "x<!---->", "", (api.MaxNodes-5)/2)
	wantEdge(t, wantPartErr, "</body>", "<!---->", "", api.MaxNodes-5)
	wantEdge(t, wantPartErr, "", "<div>", "", api.MaxDepth-3)
	wantEdge(t, wantPartErr, "", "<div>", "x", api.MaxDepth-4)
	wantEdge(t, wantPartErr, "", "x", "", api.MaxText)
	wantEdge(t, wantPartErr, "<p a=", "x", ">", api.MaxText)
	wantEdge(t, wantPartErr, "</body><!--", "x", "-->", api.MaxText)
	wantEdge(t, wantPartErr, "", "\x00", "", api.MaxText/3)
	// What is not in the body is a part of the tree as well.
	attrs := " a b c d e f g h i j k l"
	for _, name := range []string{"p", "html", "body"} {
		wantPartErr(t, "<"+name+attrs+">", api.OK)
		wantPartErr(t, "<"+name+attrs+" m>", api.ErrBig)
	}
	wantPartErr(t, "<head"+attrs+" m>", api.OK)
	wantPartErr(t, "<!doctype "+strings.Repeat("x", api.MaxName+1)+">", api.OK)
}

// P15.1, R3, R4: what is answered is new memory, no two lists of it share any, and each answer is the same.
func TestPartNewMemory(t *testing.T) {
	s := "x<p a=1><b a=1 b=2><i c=1></p>x<p>y</b>z<table a=1><td><u a=1><div>q</u></table><br><br>"
	one, e := parse.Part(s)
	two, f := parse.Part(s)
	want := show(two...)
	if e != api.OK || f != api.OK || show(one...) != want {
		t.Fatal(e, f, show(one...), want)
	}
	if spoil(one) {
		t.Error("two lists of one answer share memory")
	}
	three, _ := parse.Part(s)
	if show(two...) != want || show(three...) != want {
		t.Errorf("an answer was changed by way of another one: %s, %s", show(two...), show(three...))
	}
}

// secondPart is a second reading of Part: the first body of the first html of the Root, if nothing stands behind these.
func secondPart(s string) ([]api.Tree, api.Errno) {
	whole, e := parse.Parse(ahead + s)
	if e != api.OK {
		return nil, e
	}
	for _, name := range []string{"html", "body"} {
		at := slices.IndexFunc(whole.Kids, func(x api.Tree) bool { return x.Kind == api.Element && x.Name == name })
		if at != len(whole.Kids)-1 {
			return nil, api.OK
		}
		whole = whole.Kids[at]
	}
	return whole.Kids, api.OK
}
