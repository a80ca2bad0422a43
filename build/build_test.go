package build_test

import (
	"math"
	"reflect"
	"slices"
	"strings"
	"testing"

	"topiary/api"
	"topiary/build"
	"topiary/scan"
	"topiary/tree"
)

// bare is the tree of a source without a piece.
const bare = "(html(head body))"

// badNames are names that tree's Name refuses.
var badNames = []string{"", "A", "aB", "a b", "a\tb", "a\nb", "a\fb", "a\x00", `a"`, "a'", "a>", "a/", "a=", "<a", strings.Repeat("a", api.MaxName+1)}

// The chapter's example, and those of the document's first page that this layer says.
func TestExamples(t *testing.T) {
	cases{
		{"<p>a<b>b<p>c", "p('a' b('b')) p(b('c'))"},
		{"<p>a<p>b", "p('a') p('b')"},
		{"<b>1<i>2</b>3", "b('1' i('2')) i('3')"},
		{"<table>x<tr><td>y", "'x' table(tbody(tr(td('y'))))"},
	}.run(t)
}

// P14.1: no piece at all, and the end of all, once and again.
func TestNothing(t *testing.T) {
	wantPieces(t, bare)
	wantPieces(t, bare, []api.Token{}...)
	wantPieces(t, bare, end0)
	wantPieces(t, bare, end0, end0)
}

// P14.1: what stands behind the first end of all is not taken, with or without one at the end.
func TestEndInTheMidst(t *testing.T) {
	l := []api.Token{doctype("x"), start("p"), text("a"), end("p"), comment("c"), start("table")}
	for i := range len(l) + 1 {
		want, _, _ := buildSecond(l[:i])
		wantPieces(t, show(want), slices.Insert(slices.Clone(l), i, end0)...)
		wantPieces(t, show(want), slices.Concat(l[:i], []api.Token{end0, end0}, l[i:])...)
		wantPieces(t, show(want), l[:i]...)
	}
	wantPieces(t, "(html(head body(p('a'))))", start("p"), text("a"), end0, text("b"))
	wantPieces(t, "(html(head body))", slices.Concat([]api.Token{end0}, repeat(start("br"), 1000))...)
}

// P14.1: pieces of Kinds that are none are passed by, wherever they stand; they don't stand between two others.
func TestOtherKinds(t *testing.T) {
	l := pieces("<!doctype x><!--a--><html><head><title>t</title></head> <body><p>a<b>b<pre>\n\nc</pre><table><tr><td>d</table></body>")
	want, _, _ := buildSecond(l)
	for _, kind := range []int{0, -1, 7, 8, 256 + api.TokStart, -api.TokText, math.MinInt, math.MaxInt, 1<<32 + api.TokEnd0} {
		none := api.Token{Kind: kind, Name: "i", Text: "x", Attrs: []api.Attr{{Name: "a", Value: "1"}}, Raw: true}
		for i := range len(l) + 1 {
			wantPieces(t, show(want), slices.Insert(slices.Clone(l), i, none)...)
		}
		wantPieces(t, bare, none)
		wantPieces(t, bare, none, none)
	}
}

// P14.1: a text without a byte is passed by: no mode ends by it, and no formatting element is opened again.
func TestEmptyText(t *testing.T) {
	none := api.Token{Kind: api.TokText, Name: "x", Raw: true}
	wantPieces(t, "(^x html(head body))", none, doctype("x"))
	wantPieces(t, "(^x !c! html(head body))", doctype("x"), none, comment("c"))
	wantPieces(t, "(html(!c! head body))", start("html"), none, comment("c"))
	wantPieces(t, "(html(head body(p(b('x')) !c!)))", pieces("<p><b>x</p>", none, comment("c"))...)
	wantPieces(t, "(html(head body(table !c!)))", pieces("<table>", none, end("table"), comment("c"))...)
	wantPieces(t, "(html(head body(textarea)))", pieces("<textarea>", none)...)
}

// P14.1: a start tag with a name that is none is passed by.
func TestStartsOfNoName(t *testing.T) {
	for _, name := range badNames {
		x := start(name, "a", "1")
		wantPieces(t, bare, x)
		wantPieces(t, "(^x html(head body))", x, doctype("x"))
		wantPieces(t, "(html(head(!c!) body))", start("head"), x, comment("c"))
		wantPieces(t, "(html(head(title('ab')) body))", start("title"), text("a"), x, text("b"))
		wantPieces(t, "(html(head body(p('ab'))))", start("p"), text("a"), x, text("b"))
		wantPieces(t, "(html(head body(p(b('x')) !c!)))", pieces("<p><b>x</p>", x, comment("c"))...)
		wantPieces(t, "(html(head body !c!))", pieces("<body></body>", x, comment("c"))...)
		wantPieces(t, "(html(head body(table(colgroup(!c!)))))", pieces("<table><colgroup>", x, comment("c"))...)
	}
	long := strings.Repeat("a", api.MaxName)
	wantPieces(t, "(html(head body("+long+"('x'))))", start(long), text("x"))
}

// P14.1: attributes with names that are none are left out, of whatever element; the others stay.
func TestAttributesOfNoName(t *testing.T) {
	long := strings.Repeat("c", api.MaxName)
	for _, name := range badNames {
		wantPieces(t, "(html(head body(p)))", start("p", name, "1"))
		wantPieces(t, "(html(head body(p a=1 "+long+"=)))", start("p", "a", "1", name, "2", long, ""))
		wantPieces(t, "(html(head body(p b=1)))", start("p", name, "", name, "2", "b", "1", name, "3"))
		wantPieces(t, "(html b=2 c=3(head d=4 body e=5 f=6))", start("html", name, "1", "b", "2"), start("html", name, "1", "c", "3"), start("head", "d", "4", name, "4"), start("body", name, "1", "e", "5"), start("body", name, "6", "f", "6"))
		wantPieces(t, "(html(head(meta a=1) body(br a=1 table(caption a=1) b a=1('x'))))",
			start("meta", "a", "1", name, "2"), start("br", "a", "1", name, "2"), start("table", name, "2"), start("caption", "a", "1", name, "2"), end("table"), start("b", name, "2", "a", "1"), text("x"))
	}
	// By the attributes that are left out two formatting elements are alike.
	var l []api.Token
	for _, name := range badNames[:4] {
		l = append(l, start("b", name, name))
	}
	wantPieces(t, "(html(head body(p(b(b(b(b)))) b(b(b('x'))))))", slices.Concat([]api.Token{start("p")}, l, []api.Token{end("p"), text("x")})...)
}

// P14.1: an end tag with a name that is none is not passed by: it is an end tag of no element.
func TestEndsOfNoName(t *testing.T) {
	for _, name := range badNames {
		x := end(name)
		wantPieces(t, bare, x)
		wantPieces(t, bare, x, doctype("x"))
		wantPieces(t, "(^x !c! html(head body))", doctype("x"), x, comment("c"))
		wantPieces(t, "(html(!c! head body))", start("html"), x, comment("c"))
		wantPieces(t, "(html(head(!c!) body))", start("head"), x, comment("c"))
		wantPieces(t, "(html(head !c! body))", start("head"), end("head"), x, comment("c"))
		wantPieces(t, "(html(head body(p(span('ab')))))", start("p"), start("span"), text("a"), x, text("b"))
		wantPieces(t, "(html(head body(!c!)))", start("body"), end("body"), x, comment("c"))
		wantPieces(t, "(html(head(title('ab')) body))", start("title"), text("a"), x, text("b"))
		wantPieces(t, "(html(head body(table(colgroup !c!))))", start("table"), start("colgroup"), x, comment("c"))
		wantPieces(t, "(html(head body('\n' pre('\nx'))))", start("body"), text("\n"), start("pre"), x, text("\nx"))
	}
}

// P14.1: the attributes of an end tag, and the parts of a piece that its Kind has not, say nothing.
func TestPartsOfOtherKinds(t *testing.T) {
	attrs := []api.Attr{{Name: "a", Value: "1"}, {Name: "a", Value: "1"}}
	wantPieces(t, "(^x !c! html(head body(p('t') p br)))",
		api.Token{Kind: api.TokDoctype, Name: "x", Text: "y", Attrs: attrs, Raw: true},
		api.Token{Kind: api.TokComment, Name: "x", Text: "c", Attrs: attrs, Raw: true},
		api.Token{Kind: api.TokStart, Name: "p", Text: "y", Raw: true},
		api.Token{Kind: api.TokText, Name: "x", Text: "t", Attrs: attrs, Raw: true},
		api.Token{Kind: api.TokEnd, Name: "p", Text: "x", Attrs: attrs, Raw: true},
		api.Token{Kind: api.TokEnd, Name: "p", Text: "x", Attrs: attrs, Raw: true},
		api.Token{Kind: api.TokEnd, Name: "br", Text: "x", Attrs: attrs, Raw: true},
		api.Token{Kind: api.TokEnd0, Name: "x", Text: "x", Attrs: attrs, Raw: true})
}

// wantEdge holds the answers to as many of a piece as may be, and to one more, against what they should be.
func wantEdge(t *testing.T, ahead []api.Token, x []api.Token, most int) {
	t.Helper()
	for n, want := range map[int]api.Errno{most - 1: api.OK, most: api.OK, most + 1: api.ErrBig, most + 2: api.ErrBig, 3 * most: api.ErrBig} {
		wantErr(t, want, slices.Concat(ahead, slices.Repeat(x, n))...)
	}
}

// P14.1: as many nodes as may be, of each kind, and one more. The Root, html, head and body are four of them.
func TestMaxNodes(t *testing.T) {
	wantEdge(t, nil, []api.Token{start("br")}, api.MaxNodes-4)
	wantEdge(t, nil, []api.Token{comment("")}, api.MaxNodes-4)
	wantEdge(t, []api.Token{doctype("")}, []api.Token{comment("")}, api.MaxNodes-5)
	wantEdge(t, []api.Token{start("head")}, []api.Token{start("meta")}, api.MaxNodes-4)
	wantEdge(t, []api.Token{start("body"), end("body")}, []api.Token{comment("")}, api.MaxNodes-4)
	wantEdge(t, []api.Token{start("br")}, []api.Token{text("x"), comment("")}, (api.MaxNodes-5)/2)
	wantEdge(t, []api.Token{start("table")}, []api.Token{start("br")}, api.MaxNodes-5)
	wantEdge(t, []api.Token{start("body")}, []api.Token{end("p")}, api.MaxNodes-4)
	got, e := build.Build(repeat(start("br"), api.MaxNodes-4))
	if e != api.OK || tree.Size(got) != api.MaxNodes {
		t.Error(e, tree.Size(got))
	}
	// Texts that are one node, and pieces that make none.
	wantErr(t, api.OK, repeat(text("x"), api.MaxText)...)
	wantErr(t, api.OK, repeat(end("div"), 5000)...)
	// The nodes that are made at the end of all count as well: the body is one too many.
	wantErr(t, api.OK, slices.Concat([]api.Token{start("head")}, repeat(comment(""), api.MaxNodes-4))...)
	wantErr(t, api.ErrBig, slices.Concat([]api.Token{start("head")}, repeat(comment(""), api.MaxNodes-3))...)
}

// P14.1: nodes that are made anew count too: those that are opened again, and those of adopt.
func TestMaxNodesMadeAnew(t *testing.T) {
	// Each p makes three: itself, and the b and the i in it.
	again := pieces("<p><b><i></p>")
	wantEdge(t, again, pieces("<p><br></p>"), (api.MaxNodes-7)/4)
	// Each of these makes a b, a p, a text, and a b more by adopt.
	wantEdge(t, nil, pieces("<b><p>x</b></p>"), (api.MaxNodes-4)/4)
	// Within one piece: three are made again.
	l := pieces("<p><b><i><u></p>")
	fill := repeat(comment(""), api.MaxNodes-4-4-3-1)
	wantErr(t, api.OK, slices.Concat(l, fill, []api.Token{text("x")})...)
	wantErr(t, api.ErrBig, slices.Concat(l, fill, []api.Token{comment(""), text("x")})...)
	wantErr(t, api.ErrBig, slices.Concat(l, fill, repeat(comment(""), 2), []api.Token{text("x")})...)
	// What is refused stays refused, whatever comes.
	wantErr(t, api.ErrBig, slices.Concat(repeat(start("br"), api.MaxNodes), repeat(end("body"), 10))...)
}

// P14.1: elements that are left with nothing in them stay in the tree: each node that was made is there.
func TestNoNodeIsLost(t *testing.T) {
	for _, source := range []string{"<b><p></b>", "<b><i><u><s><tt><div>x</b>", "<table><b><p></b>", "<a><div><a>", "<table><tr><a><p><a>"} {
		got, e := build.Build(scan.All(source))
		_, _, s := buildSecond(scan.All(source))
		if e != api.OK || tree.Size(got) != len(s.nodes) {
			t.Error(source, e, tree.Size(got), len(s.nodes))
		}
	}
}

// P14.1: a depth as great as may be, and one more. The Root, html and body are three of it.
func TestMaxDepth(t *testing.T) {
	for _, name := range words("div span b object foo") {
		wantEdge(t, nil, []api.Token{start(name)}, api.MaxDepth-3)
	}
	wantEdge(t, []api.Token{start("br")}, pieces("<table><td>"), (api.MaxDepth-3)/4)
	deep := repeat(start("div"), api.MaxDepth-4)
	for _, x := range []api.Token{start("br"), text("x"), comment("")} {
		wantErr(t, api.OK, slices.Concat(deep, []api.Token{x})...)
		wantErr(t, api.ErrBig, slices.Concat(deep, []api.Token{start("div"), x})...)
	}
	// Adopt takes what is too deep out again: only what comes out is asked.
	l := slices.Concat([]api.Token{start("b"), start("span"), start("span")}, repeat(start("div"), api.MaxDepth-5))
	wantErr(t, api.ErrBig, l...)
	wantErr(t, api.OK, slices.Concat(l, []api.Token{end("b")})...)
}

// P14.1: as many attributes, and names, values and texts as long as may be, and one more.
func TestGreatest(t *testing.T) {
	var attrs []string
	for _, c := range "abcdefghijkl" {
		attrs = append(attrs, string(c), "")
	}
	more := append(slices.Clone(attrs), "m", "")
	for _, name := range words("p br html head body b table meta title foo") {
		wantErr(t, api.OK, start(name, attrs...))
		wantErr(t, api.ErrBig, start(name, more...))
		wantErr(t, api.OK, start(name, append(slices.Clone(attrs), "M", "")...))
		wantErr(t, api.OK, start(name, "a", strings.Repeat("x", api.MaxText)))
		wantErr(t, api.ErrBig, start(name, "a", strings.Repeat("x", api.MaxText+1)))
	}
	// A start tag that makes no element is not asked for its attributes.
	wantErr(t, api.OK, start("body"), start("td", more...))
	for _, x := range []api.Token{start("html"), start("body")} {
		wantErr(t, api.OK, start("html", attrs[:4]...), start("body", attrs[:4]...), start(x.Name, attrs...))
		wantErr(t, api.ErrBig, start("html", attrs[:4]...), start("body", attrs[:4]...), start(x.Name, more[4:]...), start(x.Name, more...))
	}
	most, over := strings.Repeat("x", api.MaxText), strings.Repeat("x", api.MaxText+1)
	for _, ahead := range [][]api.Token{nil, pieces("<p>"), pieces("<title>"), pieces("<table>"), pieces("<table><td>"), pieces("<textarea>")} {
		wantErr(t, api.OK, slices.Concat(ahead, []api.Token{text(most)})...)
		wantErr(t, api.OK, slices.Concat(ahead, []api.Token{text(most[1:]), text("y")})...)
		wantErr(t, api.ErrBig, slices.Concat(ahead, []api.Token{text(over)})...)
		wantErr(t, api.ErrBig, slices.Concat(ahead, []api.Token{text(most), text("y")})...)
	}
	for _, ahead := range [][]api.Token{nil, pieces("<html>"), pieces("<head>"), pieces("<p>"), pieces("<body></body>"), pieces("<table>")} {
		wantErr(t, api.OK, slices.Concat(ahead, []api.Token{comment(most)})...)
		wantErr(t, api.ErrBig, slices.Concat(ahead, []api.Token{comment(over)})...)
	}
	wantErr(t, api.OK, doctype(strings.Repeat("x", api.MaxName)))
	wantErr(t, api.ErrBig, doctype(strings.Repeat("x", api.MaxName+1)))
	wantErr(t, api.OK, doctype("x"), doctype(strings.Repeat("x", api.MaxName+1)))
	wantErr(t, api.OK, start("textarea"), text("\n"+most))
	wantErr(t, api.ErrBig, start("textarea"), text("\n"+over))
	// What is dropped may be as long as it is.
	wantErr(t, api.OK, text(strings.Repeat(" ", 2*api.MaxText)), start("p"))
}

// P14.1: attributes are taken as they stand: a list of them that no element may have makes a tree that may not be.
func TestAttributesOutOfOrder(t *testing.T) {
	wantErr(t, api.ErrBig, start("p", "b", "", "a", ""))
	wantErr(t, api.ErrBig, start("p", "a", "", "a", ""))
	wantErr(t, api.ErrBig, start("html", "b", "", "a", ""), start("html", "c", ""))
	wantPieces(t, "(html a=1 b=2 c=3(head body))", start("html", "b", "2"), start("html", "c", "3", "a", "1", "c", "4", "b", "5"))
}

// P14.1, R3: what is handed in stays as it is, spare room too.
func TestHandedInStays(t *testing.T) {
	make := func() []api.Token {
		l := pieces("<!doctype x><html b=1><html a=1><body b=2><body a=2><p><b c=1>x</p>y<pre>\n\nz</pre><table><i>q<td><u><div></u></table><image a=1>")
		attrs := append([]api.Attr{{Name: "A"}, {Name: "a", Value: "1"}, {Name: "="}, {Name: "b"}}, api.Attr{Name: "spare"})
		l = append(l, api.Token{Kind: api.TokStart, Name: "b", Attrs: attrs[:4]}, end0, start("p"), text("spare"))
		for i := range l {
			l[i].Attrs = append(l[i].Attrs, api.Attr{Name: "spare"})[:len(l[i].Attrs)]
		}
		return l[:len(l)-1]
	}
	l, want := make(), make()
	if _, e := build.Build(l); e != api.OK {
		t.Fatal(e)
	}
	whole := func(l []api.Token) []api.Token {
		l = slices.Clone(l[:len(l)+1])
		for i := range l {
			l[i].Attrs = l[i].Attrs[:len(l[i].Attrs)+1]
		}
		return l
	}
	if !reflect.DeepEqual(whole(l[:len(l)-1]), whole(want[:len(want)-1])) {
		t.Error("a list that was handed in is another one")
	}
}

// each goes through all nodes of a tree.
func each(x *api.Tree, do func(*api.Tree)) {
	do(x)
	for i := range x.Kids {
		each(&x.Kids[i], do)
	}
}

// P14.1, R3: what is answered is new memory, and no two lists of it share any.
func TestAnswerIsNew(t *testing.T) {
	l := pieces("<html a=1><body a=1><p><b a=1 b=2><i c=1></p>x<p>y</b>z<table a=1><td><u a=1><div>q</u></table><title a=1>")
	first, e := build.Build(l)
	want := show(first)
	if e != api.OK {
		t.Fatal(e)
	}
	second, _ := build.Build(l)
	each(&first, func(x *api.Tree) {
		x.Attrs = append(x.Attrs, api.Attr{Name: "spare"})[:len(x.Attrs)]
		x.Kids = append(x.Kids, api.Tree{Name: "spare"})[:len(x.Kids)]
	})
	if show(first) != want {
		t.Errorf("spare room that is shared: %s", show(first))
	}
	count := 0
	each(&first, func(x *api.Tree) {
		for i := range x.Attrs {
			if x.Attrs[i].Value == "changed" {
				t.Error("attributes that are shared")
			}
			x.Attrs[i].Value = "changed"
			count++
		}
	})
	if show(second) != want || count < 12 {
		t.Errorf("%d attributes; another answer is changed: %s", count, show(second))
	}
	for i := range l {
		for k := range l[i].Attrs {
			if l[i].Attrs[k].Value == "changed" {
				t.Error("attributes that are shared with what was handed in")
			}
			l[i].Attrs[k].Value = "other"
		}
	}
	if show(second) != want {
		t.Error("attributes that were kept")
	}
}

// R1: far more pieces than there may be nodes are taken in a short time.
func TestManyPieces(t *testing.T) {
	wantErr(t, api.ErrBig, repeat(text("x"), 200000)...)
	wantErr(t, api.ErrBig, repeat(start("b"), 200000)...)
	wantErr(t, api.ErrBig, repeat(start("table"), 200000)...)
	wantErr(t, api.OK, slices.Concat(repeat(start("b"), 50), repeat(end("i"), 100000))...)
	wantErr(t, api.OK, slices.Concat(pieces("<table>"), slices.Repeat(pieces("</td></tr></caption></body></html>"), 20000))...)
}

// R4: an answer hangs on the pieces alone.
func TestAgainTheSame(t *testing.T) {
	l := pieces("<p><b>x<table><i>y<td>z</b></table>q")
	first, _ := build.Build(l)
	for range 20 {
		build.Build(repeat(start("br"), 400))
		if again, e := build.Build(l); e != api.OK || !tree.Same(first, again) {
			t.Fatal(show(again), e)
		}
	}
}
