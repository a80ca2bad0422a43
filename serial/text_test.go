package serial_test

import (
	"math"
	"slices"
	"strings"
	"testing"

	"topiary/api"
	"topiary/parse"
	"topiary/serial"
)

// written are trees, and their sources.
type written []struct {
	tree api.Tree
	want string
}

// run holds each tree against its source: by itself, and in others.
func (l written) run(t *testing.T) {
	t.Helper()
	for _, x := range l {
		wantText(t, x.tree, x.want)
		wantText(t, root(x.tree), x.want)
		wantText(t, root(text("<"), x.tree, x.tree, comment("&")), "&lt;"+x.want+x.want+"<!--&-->")
		wantText(t, with(el("p", x.tree, el("i")), "a", "b"), `<p a="b">`+x.want+"<i></i></p>")
	}
}

// The chapter's example.
func TestExample(t *testing.T) { wantText(t, el("br"), "<br>") }

// P16.1: each Kind by itself; a part that a Kind has no say of is not told.
func TestKinds(t *testing.T) {
	kids := []api.Tree{text("x"), el("b", text("y")), comment("z"), doctype("d"), root(text("r"))}
	const inner = "x<b>y</b><!--z--><!DOCTYPE d>r"
	written{
		{root(), ""},
		{root(kids...), inner},
		{root(root(), root(root(text("a")), text("b"))), "ab"},
		{full(api.Root), ""},
		{full(api.Root, kids...), inner},
		{doctype("html"), "<!DOCTYPE html>"},
		{doctype(""), "<!DOCTYPE >"},
		{doctype("a &<>\"\u00a0\x00\xff"), "<!DOCTYPE a &<>\"\u00a0\x00\xff>"},
		{full(api.Doctype, kids...), "<!DOCTYPE n>"},
		{comment(""), "<!---->"},
		{comment("x"), "<!--x-->"},
		{full(api.Comment, kids...), "<!--t-->"},
		{text(""), ""},
		{text("x"), "x"},
		{full(api.Text, kids...), "t"},
		{el("p"), "<p></p>"},
		{el("p", kids...), "<p>" + inner + "</p>"},
		{el("br"), "<br>"},
		{full(api.Element), `<n a="1"></n>`},
		{full(api.Element, kids...), `<n a="1">` + inner + "</n>"},
		{api.Tree{}, ""},
	}.run(t)
	for _, kind := range []int{0, 6, 7, 9, -1, -api.Root, -api.Element, 1<<8 + api.Element, 1<<32 + api.Root, 1<<32 + api.Text, math.MaxInt, math.MinInt} {
		written{{full(kind), ""}, {full(kind, kids...), ""}}.run(t)
	}
}

// P16.1: a Text is escaped, without attr; by itself it is nobody's kid.
func TestTexts(t *testing.T) {
	written{
		{text("&"), "&amp;"},
		{text("<"), "&lt;"},
		{text(">"), "&gt;"},
		{text("\u00a0"), "&nbsp;"},
		{text(`"'`), `"'`},
		{text("\xc2"), "\xc2"},
		{text("\xa0"), "\xa0"},
		{text("\u00a1\u0120"), "\u00a1\u0120"},
		{text("&amp;&lt;&"), "&amp;amp;&amp;lt;&amp;"},
		{text("a<b&\u00a0\"> \n\r\x00\xff"), "a&lt;b&amp;&nbsp;\"&gt; \n\r\x00\xff"},
		{text("</p><!--x-->"), "&lt;/p&gt;&lt;!--x--&gt;"},
		{text(strings.Repeat("&", api.MaxText+1)), strings.Repeat("&amp;", api.MaxText+1)},
	}.run(t)
}

// names are all names that the document tells elements apart by, and such as are nearly one of them.
func names() []string {
	l := strings.Fields("html head body p div a b i u table caption colgroup tbody tr td li dl dd h1 h6 pre listing object select option button plaintext frameset frame image nobr x-y svg n")
	l = slices.Concat(l, voids, asTheyAre, decoded)
	for _, name := range slices.Concat(voids, asTheyAre, decoded) {
		l = append(l, strings.ToUpper(name), strings.ToUpper(name[:1])+name[1:], name+" ", " "+name, name+"x", name[1:], name[:len(name)-1], name+"\x00")
	}
	return append(l, "", " ", "<", `"`, "\xff", "ü", ofBytes(api.MaxName+1))
}

// P16.1: elements of all names: which are void, in which texts are told as they are.
func TestNames(t *testing.T) {
	const words, turned = "a<b>&\u00a0\"", "a&lt;b&gt;&amp;&nbsp;\""
	for _, name := range names() {
		inner, end := turned, "</"+name+">"
		switch {
		case slices.Contains(voids, name):
			inner, end = "", ""
		case slices.Contains(asTheyAre, name):
			inner = words
		}
		written{
			{el(name), "<" + name + ">" + end},
			{el(name, text(words)), "<" + name + ">" + inner + end},
			{el(name, text(words), text(words)), "<" + name + ">" + inner + inner + end},
			{with(el(name, text(words)), "x", words), "<" + name + ` x="a&lt;b&gt;&amp;&nbsp;&quot;">` + inner + end},
		}.run(t)
		// Names of other Kinds say nothing of the texts.
		wantText(t, api.Tree{Kind: api.Root, Name: name, Kids: []api.Tree{text(words)}}, turned)
		wantText(t, api.Tree{Kind: api.Text, Name: name, Text: words}, turned)
	}
}

// P16.1: in an element for which Raw is 2, its own texts are told as they are, and no others.
func TestRawElements(t *testing.T) {
	for _, name := range asTheyAre {
		in := func(s string) string { return "<" + name + ">" + s + "</" + name + ">" }
		written{
			{el(name, text("&"), text(""), text("</"), text("\xff\x00\u00a0\"")), in("&</\xff\x00\u00a0\"")},
			{el(name, text("</"+name+">")), in("</" + name + ">")},
			{el(name, text("&"), el("b", text("&")), text("&")), in("&<b>&amp;</b>&")},
			{el(name, el("b", el("i", text("<")), text("<")), text("<")), in("<b><i>&lt;</i>&lt;</b><")},
			{el(name, el("br", text("<")), text("<")), in("<br><")},
			{el(name, el(name, text("<")), text("<")), in(in("<") + "<")},
			{el(name, el("title", text("<")), el("xmp", text("<"))), in("<title>&lt;</title><xmp><</xmp>")},
			{el("b", el(name, text("<")), text("<")), "<b>" + in("<") + "&lt;</b>"},
			{el(name, comment("<"), text("&"), doctype("<")), in("<!--<-->&<!DOCTYPE <>")},
			{el(name, with(el("b"), "a", `"&`)), in(`<b a="&quot;&amp;"></b>`)},
			// The Root's kids are no element's, wherever it stands.
			{el(name, root(text("&")), text("&")), in("&amp;&")},
			{el(name, full(9, text("&")), text("&")), in("&")},
		}.run(t)
	}
	for _, name := range decoded {
		written{{el(name, text("&"), el("b", text("<"))), "<" + name + ">&amp;<b>&lt;</b></" + name + ">"}}.run(t)
	}
}

// P16.1: a void element has no end, and nothing of what is in it is told.
func TestVoidElements(t *testing.T) {
	for _, name := range voids {
		written{
			{el(name, text("x"), el("b", text("y")), comment("z")), "<" + name + ">"},
			{with(el(name, el(name)), "a", "1", "b", ""), "<" + name + ` a="1" b="">`},
			{el("p", el(name, text("x")), text("y")), "<p><" + name + ">y</p>"},
		}.run(t)
	}
}

// P16.1: comments as they are.
func TestComments(t *testing.T) {
	for _, s := range []string{"x", "-->", "--", "-", ">", "<!--", "&<>\"\u00a0", "&amp;", "\x00\xff\r\n", "--!>", ofBytes(api.MaxText + 1)} {
		written{{comment(s), "<!--" + s + "-->"}}.run(t)
	}
	wantText(t, el("script", comment("&")), "<script><!--&--></script>")
}

// P16.1: attributes, in the order in which they stand, all of them.
func TestAttributes(t *testing.T) {
	p := el("p")
	written{
		{with(p, "a", ""), `<p a=""></p>`},
		{with(p, "a", "1"), `<p a="1"></p>`},
		{with(p, "a", "1", "b", "2", "c", "3"), `<p a="1" b="2" c="3"></p>`},
		{with(p, "c", "3", "a", "1", "a", "2"), `<p c="3" a="1" a="2"></p>`},
		{with(p, "a", `"`), `<p a="&quot;"></p>`},
		{with(p, "a", "'"), `<p a="'"></p>`},
		{with(p, "a", "&"), `<p a="&amp;"></p>`},
		{with(p, "a", "<"), `<p a="&lt;"></p>`},
		{with(p, "a", ">"), `<p a="&gt;"></p>`},
		{with(p, "a", "\u00a0"), `<p a="&nbsp;"></p>`},
		{with(p, "a", `x"y'z& <b c="d">&quot;`+"\x00\xff\n", "b", `""`), `<p a="x&quot;y'z&amp; &lt;b c=&quot;d&quot;&gt;&amp;quot;` + "\x00\xff\n" + `" b="&quot;&quot;"></p>`},
		{with(p, "", "", "A B", "1", `<">&`, "2"), `<p ="" A B="1" <">&="2"></p>`},
		{with(p, "a", strings.Repeat(`"`, api.MaxText+1)), `<p a="` + strings.Repeat("&quot;", api.MaxText+1) + `"></p>`},
		{with(el("script", text("&")), "a", `&"`), `<script a="&amp;&quot;">&</script>`},
		{with(el("img"), "a", "<", "b", "x"), `<img a="&lt;" b="x">`},
	}.run(t)
}

// P16.1: each byte in each of a node's parts.
func TestAllBytes(t *testing.T) {
	turned := map[string]string{"&": "&amp;", "<": "&lt;", ">": "&gt;", `"`: `"`}
	for c := range 256 {
		s := string([]byte{byte(c)})
		words := s
		if turned[s] != "" {
			words = turned[s]
		}
		value := strings.ReplaceAll(words, `"`, "&quot;")
		written{
			{text(s), words},
			{el("style", text(s)), "<style>" + s + "</style>"},
			{el("x"+s, text(s)), "<x" + s + ">" + words + "</x" + s + ">"},
			{with(el("x"), s, s), "<x " + s + `="` + value + `"></x>`},
			{comment(s), "<!--" + s + "-->"},
			{doctype(s), "<!DOCTYPE " + s + ">"},
		}.run(t)
	}
}

// P16.1: pages that are written just so: their trees have them as their sources.
func TestPages(t *testing.T) {
	for _, s := range []string{
		"<html><head></head><body></body></html>",
		`<!DOCTYPE html><!--c--><html lang="en"><head><title>a &amp; b</title><meta charset="x"><script>1<2&&3</script></head><body class="x y"><h1 id="&quot;">T</h1><p>a <b>b</b><br>c&nbsp;d</p><ul><li>1</li><li>2<!----></li></ul></body></html>`,
		"<html><head><style>a>b{}</style> </head><body><table><tbody><tr><td>&lt;</td><th></th></tr></tbody></table><textarea>a&gt;</textarea><hr></body></html>",
	} {
		x, e := parse.Parse(s)
		if e != api.OK {
			t.Fatal(e)
		}
		wantText(t, x, s)
	}
}

// P16.1: drawn trees, such as may be nearly, and wild ones, against the second reading; what is handed in stays.
func TestTextDrawn(t *testing.T) {
	seed := uint64(16)
	long := 0
	for i := range 6000 {
		x := drawnTree(&seed, 1+i%5, i%2 == 1)
		was := remember(x)
		want := secondText(x, api.Tree{})
		wantText(t, x, want)
		wantText(t, root(x, x), want+want)
		if !was.holds(x) {
			t.Fatalf("the tree of %q was changed", short(want))
		}
		if got := serial.Text(x); got != want {
			t.Fatalf("asked again: %q, want %q", short(got), short(want))
		}
		if len(want) > 200 {
			long++
		}
	}
	if long < 500 {
		t.Errorf("%d long sources: the trees don't tell enough", long)
	}
}
