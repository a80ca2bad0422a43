package build_test

import (
	"slices"
	"strings"
	"testing"

	"topiary/api"
)

// P14.5: the mode start.
func TestModeStart(t *testing.T) {
	wholes{
		{"", bare},
		{"<!--a--><!--b-->", "(!a! !b! html(head body))"},
		{"<!--a--><!doctype x><!--b-->", "(!a! ^x !b! html(head body))"},
		{"<!doctype x>", "(^x html(head body))"},
		{" \t\n\f<!--a--> <!doctype x>", "(!a! ^x html(head body))"},
		// All else: no doctype counts any more.
		{"<p><!doctype x>", "(html(head body(p)))"},
		{"</p><!doctype x>", bare},
		{"x<!doctype x>", "(html(head body('x')))"},
		{"</foo><!--a-->", "(!a! html(head body))"},
		{"<html><!doctype x>", bare},
	}.run(t)
	wantPieces(t, "(^ html(head body))", doctype(""))
	wantPieces(t, "(^A B< html(head body))", doctype("A B<"))
}

// P14.5: the mode html.
func TestModeHTML(t *testing.T) {
	wholes{
		{"<!doctype x><!--a--><!--b-->", "(^x !a! !b! html(head body))"},
		{"<!doctype x><!doctype y> <!--a-->", "(^x !a! html(head body))"},
		{"<!doctype x> \n <!--a-->", "(^x !a! html(head body))"},
		{"<!doctype x><html a=1 b=2><!--a-->", "(^x html a=1 b=2(!a! head body))"},
		{"<!doctype x></p></foo></table></title><!--a-->", "(^x !a! html(head body))"},
		// The four end tags, and all else.
		{"<!doctype x></head><!--a-->", "(^x html(head !a! body))"},
		{"<!doctype x></body><!--a-->", "(^x html(head body !a!))"},
		{"<!doctype x></html><!--a-->", "(^x html(head body !a!))"},
		{"<!doctype x></br><!--a-->", "(^x html(head body(br !a!)))"},
		{"<!doctype x><head a=1><!--a-->", "(^x html(head a=1(!a!) body))"},
		{"<!doctype x><body a=1><!--a-->", "(^x html(head body a=1(!a!)))"},
		{"<!doctype x><p>", "(^x html(head body(p)))"},
		{"<!doctype x>x", "(^x html(head body('x')))"},
		{"<!doctype x><meta>", "(^x html(head(meta) body))"},
	}.run(t)
}

// P14.5: the mode ahead.
func TestModeAhead(t *testing.T) {
	wholes{
		{"<html><!--a--><!--b-->", "(html(!a! !b! head body))"},
		{"<html> <!doctype x>\n<!--a-->", "(html(!a! head body))"},
		{"<html a=1><html a=2 b=3><!--a-->", "(html a=1 b=3(!a! head body))"},
		{"<html><head a=1 b=2><!--a-->", "(html(head a=1 b=2(!a!) body))"},
		{"<html></p></foo></table></title><!--a-->", "(html(!a! head body))"},
		{"<html></head><!--a-->", "(html(head !a! body))"},
		{"<html></body><!--a-->", "(html(head body !a!))"},
		{"<html></html><!--a-->", "(html(head body !a!))"},
		{"<html></br><!--a-->", "(html(head body(br !a!)))"},
		{"<html>x<!--a-->", "(html(head body('x' !a!)))"},
		{"<html><body a=1>", "(html(head body a=1))"},
		{"<html><base><!--a-->", "(html(head(base !a!) body))"},
		{"<html><title>x", "(html(head(title('x')) body))"},
		{"<html><foo>", "(html(head body(foo)))"},
	}.run(t)
}

// P14.5: the mode head.
func TestModeHead(t *testing.T) {
	wholes{
		{"<head> <!--a-->\n<!--b-->", "(html(head(' ' !a! '\n' !b!) body))"},
		{"<head><!doctype x><head a=1><!--a-->", "(html(head(!a!) body))"},
		{"<html a=1><head><html a=2 b=3><!--a-->", "(html a=1 b=3(head(!a!) body))"},
		{"<head><base a=1><link b=2><meta c=3><!--a-->", "(html(head(base a=1 link b=2 meta c=3 !a!) body))"},
		{"<head><title a=1>x</title><style>y</style><script>z</script><noframes>w</noframes><!--a-->", "(html(head(title a=1('x') style('y') script('z') noframes('w') !a!) body))"},
		{"<head></head><!--a-->", "(html(head !a! body))"},
		{"<head></title></style></script></noframes><!--a-->", "(html(head(!a!) body))"},
		{"<head></p></foo></table></base></textarea><!--a-->", "(html(head(!a!) body))"},
		// All else.
		{"<head></body><!--a-->", "(html(head body !a!))"},
		{"<head></html><!--a-->", "(html(head body !a!))"},
		{"<head></br><!--a-->", "(html(head body(br !a!)))"},
		{"<head>x<!--a-->", "(html(head body('x' !a!)))"},
		{"<head> x<!--a-->", "(html(head(' ') body('x' !a!)))"},
		{"<head><body a=1><!--a-->", "(html(head body a=1(!a!)))"},
		{"<head><p><!--a-->", "(html(head body(p(!a!))))"},
		{"<head><br><!--a-->", "(html(head body(br !a!)))"},
		{"<head><textarea>x", "(html(head body(textarea('x'))))"},
		{"<head>", bare},
		{"<head><title>", "(html(head(title) body))"},
	}.run(t)
}

// P14.5: the mode behind head.
func TestModeBehindHead(t *testing.T) {
	wholes{
		{"</head> <!--a-->\n<!--b-->", "(html(head ' ' !a! '\n' !b! body))"},
		{"</head><!doctype x><head a=1><!--a-->", "(html(head !a! body))"},
		{"<html a=1></head><html a=2 b=3><!--a-->", "(html a=1 b=3(head !a! body))"},
		{"</head><body a=1><!--a-->", "(html(head body a=1(!a!)))"},
		// The head is opened again, and open no more; what is in it stays open.
		{"</head><base a=1><link><meta><!--a-->", "(html(head(base a=1 link meta) !a! body))"},
		{"</head><title>x</title><!--a--><style>y</style><script>z</script> <noframes>w</noframes>v", "(html(head(title('x') style('y') script('z') noframes('w')) !a! ' ' body('v')))"},
		{"<head> </head> <title>x</title> <title>y</title>", "(html(head(' ' title('x') title('y')) '  ' body))"},
		{"</head><title>x", "(html(head(title('x')) body))"},
		{"</head></p></foo></head></table></title><!--a-->", "(html(head !a! body))"},
		// All else.
		{"</head></body><!--a-->", "(html(head body !a!))"},
		{"</head></html><!--a-->", "(html(head body !a!))"},
		{"</head></br><!--a-->", "(html(head body(br !a!)))"},
		{"</head>x<!--a-->", "(html(head body('x' !a!)))"},
		{"</head> x<!--a-->", "(html(head ' ' body('x' !a!)))"},
		{"</head><p><!--a-->", "(html(head body(p(!a!))))"},
		{"</head><frameset><!--a-->", "(html(head body(!a!)))"},
		{"</head>", bare},
	}.run(t)
	// A start tag, while what is in the head is open: that is open no more, and the mode is the same.
	wantPieces(t, "(html(head(title('x') meta) !c! body))", start("head"), end("head"), start("title"), text("x"), start("meta"), comment("c"))
}

// P14.5: the mode after.
func TestModeAfter(t *testing.T) {
	wholes{
		{"<p>x</body> \n", "(html(head body(p('x \n'))))"},
		{"<p><b>x</p></body> <!--a-->", "(html(head body(p(b('x')) b(' ')) !a!))"},
		{"x</body><!--a--><!--b--> <!--c-->", "(html(head body('x ') !a! !b! !c!))"},
		{"x</body><!doctype x></html></html><!--a-->", "(html(head body('x') !a!))"},
		// All else: back in the body, in what is open there.
		{"<p>x</body>y<!--a-->", "(html(head body(p('xy' !a!))))"},
		{"<p>x</body><b>y<!--a-->", "(html(head body(p('x' b('y' !a!)))))"},
		{"<div>x</body></div>y", "(html(head body(div('x') 'y')))"},
		{"x</body></foo><!--a-->", "(html(head body('x' !a!)))"},
		{"x</body></p><!--a-->", "(html(head body('x' p !a!)))"},
		{"x</body></br><!--a-->", "(html(head body('x' br !a!)))"},
		{"x</body></body><!--a-->", "(html(head body('x') !a!))"},
		{"x</html></body><!--a-->", "(html(head body('x') !a!))"},
		{"x</body><html a=1><body b=2><!--a-->", "(html a=1(head body b=2('x' !a!)))"},
		{"x</body><table></body>y", "(html(head body('xy' table)))"},
		{"x</body>", "(html(head body('x')))"},
	}.run(t)
}

var raws = words("title textarea style script xmp iframe noembed noframes")

// P14.5: where current is a raw element, whatever the mode is.
func TestRaw(t *testing.T) {
	for _, opening := range []string{"", "<!doctype x>", "<html>", "<head>", "</head>", "<body>", "<p><b>", "<body></body>", "<table>", "<table><caption>", "<table><colgroup>", "<table><tbody>", "<table><tr>", "<table><td>"} {
		for _, name := range raws {
			ahead := pieces(opening, start(name, "k", "v"))
			with := func(l ...api.Token) []api.Token { return slices.Concat(ahead, l) }
			tell := func(l ...api.Token) string {
				t.Helper()
				got, e, _ := buildSecond(with(l...))
				if e != api.OK {
					t.Fatal(e)
				}
				wantPieces(t, show(got), with(l...)...)
				return show(got)
			}
			in := func(l ...api.Token) string {
				s := tell(l...)
				at := strings.Index(s, name+" k=v")
				return s[at+len(name+" k=v"):]
			}
			// A text is put as it is, Blanks too.
			if got := in(text("x"), text(" \n")); !strings.HasPrefix(got, "('x \n')") {
				t.Errorf("%s %s: %s", opening, name, got)
			}
			if got := in(text(" ")); !strings.HasPrefix(got, "(' ')") {
				t.Errorf("%s %s: %s", opening, name, got)
			}
			// Comments, doctypes and other end tags are dropped.
			if got := in(text("x"), comment("c"), doctype("d"), end("p"), end("body"), end("html"), end("br"), end("table"), end("foo"), text("y")); !strings.HasPrefix(got, "('xy')") {
				t.Errorf("%s %s: %s", opening, name, got)
			}
			// Its own end tag, and any start tag, ends it.
			for _, x := range []api.Token{end(name), start("i"), start("title"), start("style"), start("td"), start("table")} {
				if got := in(text("x"), x, text("y")); !strings.HasPrefix(got, "('x')") || !strings.Contains(tell(text("x"), x, text("y")), "'y'") {
					t.Errorf("%s %s %v: %s", opening, name, x, got)
				}
			}
			// So does the end of all.
			if got := in(text("x"), end0); !strings.HasPrefix(got, "('x')") {
				t.Errorf("%s %s: %s", opening, name, got)
			}
		}
	}
}

// P14.5: raw elements by their sources.
func TestRawSources(t *testing.T) {
	wholes{
		{"<title>a<b>&lt;</title>c", "(html(head(title('a<b><')) body('c')))"},
		{"<script>a<b>&lt;</script>c", "(html(head(script('a<b>&lt;')) body('c')))"},
		{"<p><title>a</title>b", "(html(head body(p(title('a') 'b'))))"},
		{"<p><textarea>a<p></textarea>b", "(html(head body(p(textarea('a<p>') 'b'))))"},
		{"<p><xmp>a<p></xmp>b", "(html(head body(p xmp('a<p>') 'b')))"},
		{"<p><iframe>a<p></iframe>b<noembed><i></noembed>c", "(html(head body(p(iframe('a<p>') 'b' noembed('<i>') 'c'))))"},
		{"<p><noframes>a<p></noframes>b", "(html(head body(p(noframes('a<p>') 'b'))))"},
		{"<table><title>a</title>b", "(html(head body(title('a') 'b' table)))"},
		{"<table><style>a</style>b", "(html(head body('b' table(style('a')))))"},
		{"<table><tr><script>a</script><tr>", "(html(head body(table(tbody(tr(script('a')) tr)))))"},
		{"<table><colgroup><script>a</script><col>", "(html(head body(table(colgroup script('a') colgroup(col)))))"},
	}.run(t)
}

// P14.5: a byte 10 just behind the start tag of a textarea, pre or listing is left out.
func TestFirstByte10(t *testing.T) {
	for _, name := range words("textarea pre listing") {
		for _, opening := range []string{"<body>", "<head>", "<p>", "<table>", "<table><td>", ""} {
			for _, c := range [][2]string{{"\nx", "('x')"}, {"\n\nx", "('\nx')"}, {"x\n", "('x\n')"}, {" \nx", "(' \nx')"}, {"\r\nx", "('\r\nx')"}, {"\n", ""}, {"\n\n", "('\n')"}, {"\n ", "(' ')"}} {
				got, _, _ := buildSecond(pieces(opening, start(name), text(c[0])))
				if !strings.Contains(show(got), name+c[1]) {
					t.Fatal(show(got))
				}
				wantPieces(t, show(got), pieces(opening, start(name), text(c[0]))...)
			}
		}
		cases{
			{"<" + name + ">\nx</" + name + ">y", name + "('x') 'y'"},
			{"<" + name + " a=1>\n\nx", name + " a=1('\nx')"},
			{"<" + name + ">\n</" + name + ">\nx", name + " '\nx'"},
			{"<" + name + "></" + name + ">\nx", name + " '\nx'"},
		}.run(t)
		// Only of the piece that follows at once.
		wantPieces(t, "(html(head body("+name+"('\nx'))))", start(name), text("\n"), text("\nx"))
		wantPieces(t, "(html(head body("+name+"('x\ny'))))", start(name), text("x"), text("\ny"))
		wantPieces(t, "(html(head body("+name+" '\nx')))", start(name), end(name), text("\nx"))
		wantPieces(t, "(html(head body("+name+"('\nx'))))", start(name), end("foo"), text("\nx"))
		// What is passed by does not stand between.
		wantPieces(t, "(html(head body("+name+"('x'))))", start(name), text(""), api.Token{Kind: 9}, start("A"), text("\nx"))
	}
	cases{
		{"<pre><b>\nx", "pre(b('\nx'))"},
		{"<pre><!--c-->\nx", "pre(!c! '\nx')"},
		{"<div>\nx", "div('\nx')"},
		{"<p>\nx", "p('\nx')"},
		{"<xmp>\nx", "xmp('\nx')"},
		{"<plaintext>\nx", "plaintext('\nx')"},
		{"<body><title>\nx", "title('\nx')"},
		{"<pre><pre>\nx", "pre(pre('x'))"},
		// A byte 10 that is left out opens no formatting element again.
		{"<p><b></p><pre>\n</pre>", "p(b) pre"},
		{"<p><b></p><pre>\n\n</pre>", "p(b) pre(b('\n'))"},
		{"<p><b></p><listing>\n<i>x", "p(b) listing(b(i('x')))"},
	}.run(t)
}
