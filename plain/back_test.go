package plain_test

import (
	"slices"
	"strings"
	"testing"

	"topiary/api"
	"topiary/parse"
	"topiary/plain"
	"topiary/serial"
)

// drawer draws nodes of a page that is plain, by the rules that say what may stand where.
type drawer struct {
	seed *uint64
	left int // nodes that may still be drawn
}

// node is a node in flow; around are the names of what it stands in.
func (d *drawer) node(around []string, depth int) api.Tree {
	d.left--
	if depth < 2 || d.left < 1 || draw(d.seed, 4) == 0 {
		return comment(pick(d.seed, "", "a", "-b", "a>", "</p>", "<table>"))
	}
	switch draw(d.seed, 12) {
	case 0:
		return d.attrs(el(pick(d.seed, without...)))
	case 1:
		return d.raw(pick(d.seed, flowRaws...))
	case 2:
		return d.list(around, depth)
	case 3:
		return d.table(around, depth)
	case 4:
		return d.attrs(d.flow(pick(d.seed, blocks...), around, depth))
	case 5:
		return d.attrs(d.flow(pick(d.seed, append(headings, "p", "p", "listing", "button", "pre")...), around, depth))
	case 6:
		return d.attrs(d.flow(pick(d.seed, "span", "label", "x-1", "ruby", "optgroup", "noscript"), around, depth))
	}
	name := pick(d.seed, "a", "b", "b", "i", "u", "font", "code", "em")
	return d.attrs(d.flow(name, around, depth))
}

// flow is an element with flow in it.
func (d *drawer) flow(name string, around []string, depth int) api.Tree {
	return el(name, d.kids(append(slices.Clip(around), name), depth-1, d.node)...)
}

// kids are some nodes, drawn by each, of which those that what is around them bars are left out, with texts between.
func (d *drawer) kids(around []string, depth int, each func([]string, int) api.Tree) []api.Tree {
	var l []api.Tree
	parent := around[len(around)-1]
	for range draw(d.seed, 5) {
		n := len(l)
		if d.left > 0 && (n == 0 || l[n-1].Kind != api.Text) && draw(d.seed, 2) == 0 {
			d.left--
			l = append(l, text(d.words(parent, n == 0)))
		}
		if d.left < 1 || depth < 1 {
			break
		}
		k := each(around, depth)
		if k.Kind != api.Element || secondPlace(k.Name, append([]string{"", "html"}, around...)) {
			l = append(l, k)
		}
	}
	return l
}

// words is a text in an element.
func (d *drawer) words(parent string, first bool) string {
	if inList(parent, words("table colgroup tbody tfoot thead tr head")) {
		return pick(d.seed, " ", "\n", "\t \f")
	}
	s := pick(d.seed, "a", "b c", " ", "\n", "<", "&", "&amp;", "\u00a0", "</b>", "é", "\na") + pick(d.seed, "", "", "x", "\n", ">", "&lt")
	if first && inList(parent, words("pre listing textarea")) {
		return strings.TrimLeft(s, "\n") + "."
	}
	return s
}

// raw is a raw element.
func (d *drawer) raw(name string) api.Tree {
	if draw(d.seed, 3) == 0 {
		return d.attrs(el(name))
	}
	return d.attrs(el(name, text(strings.ReplaceAll(d.words(name, true), "</", "<")+pick(d.seed, "", "<", "<b>", "<!--"))))
}

// attrs gives an element attributes at times; mostly the same ones.
func (d *drawer) attrs(x api.Tree) api.Tree {
	for _, name := range words("a b- ü") {
		if draw(d.seed, 6) == 0 {
			x = with(x, name, pick(d.seed, "", "1", "\"&<>'", "\n", "&lt", "\u00a0"))
		}
	}
	return x
}

// list is a list with items, and other things in it.
func (d *drawer) list(around []string, depth int) api.Tree {
	name := pick(d.seed, "ul", "ol", "menu", "dl")
	items := words("li")
	if name == "dl" {
		items = words("dd dt")
	}
	return el(name, d.kids(append(slices.Clip(around), name), depth-1, func(around []string, depth int) api.Tree {
		if draw(d.seed, 4) == 0 {
			return d.node(around, depth)
		}
		d.left--
		return d.attrs(d.flow(pick(d.seed, items...), around, depth))
	})...)
}

// table is a table with its parts.
func (d *drawer) table(around []string, depth int) api.Tree {
	return d.part("table", around, depth)
}

// part is a table, or a part of one.
func (d *drawer) part(name string, around []string, depth int) api.Tree {
	may := map[string]string{"table": "caption colgroup tbody tbody tfoot thead", "colgroup": "col", "tbody": "tr", "tfoot": "tr", "thead": "tr", "tr": "td td th"}[name]
	if may == "" {
		return d.attrs(d.flow(name, around, depth))
	}
	return d.attrs(el(name, d.kids(append(slices.Clip(around), name), depth-1, func(around []string, depth int) api.Tree {
		d.left--
		if draw(d.seed, 6) == 0 {
			return comment("c")
		}
		if name == "colgroup" {
			return d.attrs(el("col"))
		}
		return d.part(pick(d.seed, words(may)...), around, depth)
	})...))
}

// drawnPage is a drawn page that is plain, as far as its size is.
func drawnPage(seed *uint64) api.Tree {
	d := &drawer{seed, 20 + draw(seed, 120)}
	var l []api.Tree
	if draw(seed, 3) == 0 {
		l = append(l, comment(pick(seed, "", "a")))
	}
	if draw(seed, 3) == 0 {
		l = append(l, doctype(pick(seed, "html", "x\"", "é")), comment("d"))
	}
	head := el("head", d.kids(words("head"), 2, func([]string, int) api.Tree {
		if draw(seed, 2) == 0 {
			return d.attrs(el(pick(seed, "base", "link", "meta")))
		}
		return d.raw(pick(seed, "title", "style", "script"))
	})...)
	body := el("body")
	for range 1 + draw(seed, 3) {
		body.Kids = append(body.Kids, d.kids(words("body"), 6+draw(seed, 30), d.node)...)
		body.Kids = append(body.Kids, comment(""))
	}
	return root(append(l, d.attrs(el("html", d.attrs(head), d.attrs(body))))...)
}

// pathsIn are all nodes of a tree.
func pathsIn(x *api.Tree) []*api.Tree {
	l := []*api.Tree{x}
	for i := range x.Kids {
		l = append(l, pathsIn(&x.Kids[i])...)
	}
	return l
}

// spoilt is a tree of which one node, or some, are others.
func spoilt(seed *uint64, x api.Tree) api.Tree {
	x = copied(x, 0)
	for range 1 + draw(seed, 2) {
		l := pathsIn(&x)
		n := l[draw(seed, len(l))]
		other := *l[draw(seed, len(l))]
		switch draw(seed, 8) {
		case 0:
			n.Name = pick(seed, names...)
		case 1:
			n.Kids = append(n.Kids, copied(other, 0))
		case 2:
			*n = copied(other, 0)
		case 3:
			*n = text(pick(seed, "a", " ", "\n", "</"))
		case 4:
			n.Kids = append([]api.Tree{text(pick(seed, "a", "\n", "</b>"))}, n.Kids...)
		case 5:
			n.Kids = []api.Tree{copied(*n, 0)}
		case 6:
			n.Kids = append(n.Kids, el(pick(seed, names...)))
		case 7:
			slices.Reverse(n.Kids)
		}
	}
	return x
}

// P17.3: drawn plain trees are plain, and come back.
func TestDrawnPlain(t *testing.T) {
	t.Parallel()
	seed := uint64(17)
	nodes := 0
	for range 3000 {
		x := drawnPage(&seed)
		if serial.Len(x) <= api.MaxSource && len(pathsIn(&x)) <= api.MaxNodes {
			wantPlain(t, x)
			nodes += len(pathsIn(&x))
		}
	}
	if nodes < 3000*20 {
		t.Errorf("%d nodes: the trees don't tell enough", nodes)
	}
}

// P17.2, P17.3: drawn plain trees of which some nodes are others: some are plain, some are not.
func TestDrawnSpoilt(t *testing.T) {
	t.Parallel()
	seed := uint64(1717)
	is := 0
	for range 6000 {
		if holds(t, spoilt(&seed, drawnPage(&seed))) {
			is++
		}
	}
	if is < 600 || is > 5400 {
		t.Errorf("%d of 6000 are plain: the trees don't tell enough", is)
	}
}

// P17.2, P17.3: all bodies of up to three nodes of these.
func TestSmallBodies(t *testing.T) {
	t.Parallel()
	nodes := []api.Tree{text("a"), text("\n"), comment("")}
	for _, name := range words("p b a div h1 ul li dl dd button pre textarea script table caption tbody tr td br object nobr x-y") {
		nodes = append(nodes, el(name))
	}
	is := 0
	for _, x := range nodes {
		for _, y := range nodes {
			for _, z := range nodes {
				x.Kids, y.Kids = nil, nil
				var l [][]api.Tree
				l = append(l, []api.Tree{x, y, z})
				y.Kids = []api.Tree{z}
				l = append(l, []api.Tree{x, y})
				x.Kids = []api.Tree{y}
				l = append(l, []api.Tree{x})
				y.Kids = nil
				x.Kids = []api.Tree{y}
				l = append(l, []api.Tree{x, z})
				x.Kids = []api.Tree{y, z}
				l = append(l, []api.Tree{x})
				for _, body := range l {
					if holds(t, page(body...)) {
						is++
					}
				}
			}
		}
	}
	if is < 5000 {
		t.Errorf("%d are plain: the trees don't tell enough", is)
	}
}

// P17.3: elements that are opened again elsewhere, more of one name in each other than stay active, and all that stands between.
func TestFormatsInEachOther(t *testing.T) {
	t.Parallel()
	seed := uint64(31717)
	for range 3000 {
		x := text("x")
		for range 1 + draw(&seed, 25) {
			y := el(pick(&seed, "b", "b", "b", "i", "div", "span", "table", "ul", "font"))
			if y.Name == "font" {
				y = with(y, "a", pick(&seed, "1", "2"))
			}
			switch y.Name {
			case "table":
				x = row(el("td", x))
			case "ul":
				x = el("ul", el("li", x))
			default:
				l := []api.Tree{x}
				if draw(&seed, 2) == 0 && x.Kind != api.Text {
					l = append(l, text("y"))
				}
				y.Kids = l
				x = y
			}
		}
		wantPlain(t, page(x, comment(""), text("z")))
	}
}

// wantBack holds the tree of a source, if it is plain, against what its own source, parsed, is; it tells whether it is plain.
func wantBack(t *testing.T, s string) bool {
	t.Helper()
	x, e := parse.Parse(s)
	if e != api.OK {
		return false
	}
	if !holds(t, x) {
		return false
	}
	again, e := parse.Parse(serial.Text(x))
	if e != api.OK || serial.Text(again) != serial.Text(x) || !plain.Plain(again) {
		t.Errorf("%q is plain, but its source turns into %q, %v", short(s), short(serial.Text(again)), e)
	}
	return true
}

// P17.3: the document's examples, and some more.
func TestSources(t *testing.T) {
	for s, want := range map[string]bool{
		"":                                   true,
		"<p>a":                               true,
		"<p>a<p>b":                           true,
		"<b>1<i>2</b>3":                      true,
		"<table>x<tr><td>y":                  true,
		"&notit;":                            true,
		"<p>a<b>b<p>c":                       true,
		"<!DOCTYPE html><!--c--><title>t":    true,
		"<!doctype>":                         false,
		"<ul><li>a<li>b</ul>":                true,
		"<li>a":                              false,
		"<pre>\na":                           true,
		"<pre>\n\na":                         false,
		"<textarea>\n\n":                     false,
		"<a>1<a>2":                           true,
		"<a>1<table><tr><td><a>2":            false,
		"<h1>1<h2>2":                         true,
		"<h1>1<div><h2>2":                    false,
		"<p>1<button><div>2":                 false,
		"<button>1<button>2":                 true,
		"<select><option>a":                  false,
		"<object>a":                          false,
		"<nobr>a":                            false,
		"<plaintext>a":                       false,
		"<image>":                            true,
		"<frameset>":                         true,
		"<p></b>":                            true,
		"x</body><!--c-->":                   false,
		"x</html><!--c-->":                   false,
		"</head> <body>":                     false,
		"<head></head><title>a</title>":      true,
		"<noframes>a</noframes>":             false,
		"<body><style>a<b</style>":           true,
		"<body><style>a</b</style>":          false,
		"<title>a</b</title>":                true,
		"&#13;":                              false,
		"\r":                                 true,
		"\x00\xff":                           true,
		"<p a=&#13;>":                        false,
		"<p é=1 A=2>":                        true,
		"<!--a--b-->":                        false,
		"<!--a--!>":                          true,
		"<!x->":                              false,
		"<x_y>":                              false,
		"<table><caption>a<tr><td>b":         true,
		"<table><col><col></table>":          true,
		"<b>1<p>2</b>3":                      true,
		"<ruby>a<rt>b":                       false,
		"<table><tr><td><p>a<table><p>b</p>": true,
	} {
		if got := wantBack(t, s); got != want {
			x, _ := parse.Parse(s)
			t.Errorf("%q is %q; it is plain: %v", s, serial.Text(x), got)
		}
	}
}

// parts are what drawn sources are made of.
var parts = slices.Concat(
	words("x y &lt; &notit; & < </ <! <? > / = ' \" </> <!-- --> <!--c--> <!doctype <p </p \x00 \xff ü"),
	[]string{" ", "\n", "\r", "a b", "<!doctype html>", "<p a=1 b='2'>", "<html a=1>", "<body c d>"},
	tags("html head body title script style textarea p div b i a nobr h1 h2 ul li dl dd table caption colgroup tbody tr td object button br hr pre iframe meta select option x-y"),
)

// tame are parts of which trees come that are mostly plain.
var tame = slices.Concat(words("x y &amp; <!--c-->"), []string{" ", "\n"}, tags("p div b i a span h1 ul br table tr td button"))

// tags are the start and the end tags of names.
func tags(names string) (l []string) {
	for _, name := range words(names) {
		l = append(l, "<"+name+">", "</"+name+">")
	}
	return l
}

// P17.3: the trees of sources of any bytes: those that are plain come back the same.
func TestAnySources(t *testing.T) {
	t.Parallel()
	var bytes []string
	for c := range 256 {
		bytes = append(bytes, string([]byte{byte(c)}))
	}
	marks := strings.Split("<<<>>//!-- abp'\"=&;#\r\n\x00\xff", "")
	seed := uint64(7)
	is := 0
	for i := range 15000 {
		l := [][]string{tame, parts, marks, bytes, tame}[i%5]
		var s strings.Builder
		for range draw(&seed, pick(&seed, 5, 10, 20, 60)) {
			s.WriteString(pick(&seed, l...))
		}
		if wantBack(t, s.String()) {
			is++
		}
	}
	if is < 4000 || is > 14000 {
		t.Errorf("%d of 15000 are plain: the sources don't tell enough", is)
	}
	for _, a := range bytes {
		for _, b := range marks {
			wantBack(t, a+b+"<p "+a+b+"=1>")
			wantBack(t, b+a)
		}
		for _, s := range []string{"<!doctype " + a + ">", "<p a='" + a + "'>x", "<!--" + a + "-->", "<title>" + a, "<p>x" + a + "y", "<pre>" + a, "<x" + a + "y>", "<style>" + a + "</style>" + a, "<table>" + a + "<tr>" + a + "<td>" + a} {
			wantBack(t, s)
		}
	}
}
