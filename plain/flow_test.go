package plain_test

import (
	"slices"
	"strings"
	"testing"

	"topiary/api"
)

// inList tells whether a name is one of a list.
func inList(name string, lists ...[]string) bool {
	return slices.Contains(slices.Concat(lists...), name)
}

// words are the words of a text.
func words(s string) []string { return strings.Fields(s) }

// P17.2, 3: the head's kids: comments, texts of Blanks alone, and just the elements that are named.
func TestHead(t *testing.T) {
	wantPlain(t,
		headed(),
		headed(comment("a"), text(" "), comment("")),
		headed(text("\n")), headed(text("\t\n\f ")), headed(text(" "), el("meta"), text("\n"), el("link")),
		headed(el("base"), el("link"), el("meta"), el("title", text("a")), el("style", text("b")), el("script", text("c")), el("title"), el("style"), el("script")),
		headed(with(el("meta"), "charset", "utf-8"), with(el("title", text("\na ")), "id", "t")),
	)
	for _, s := range []string{"a", " a", "a ", "\n.", "\u00a0", " \u00a0 ", "\x0b", "\u2003", "&", " < ", "\x01"} {
		wantNot(t, headed(text(s)), headed(el("meta"), text(s)), headed(text(" "), comment(""), text(s)))
	}
	for _, name := range names {
		may := inList(name, words("base link meta title style script"))
		want(t, headed(el(name)), may)
		want(t, headed(el("meta"), comment("c"), el(name), text(" ")), may)
		want(t, headed(el(name, text("a"))), inList(name, words("title style script")))
		want(t, headed(el(name, text(" "))), inList(name, words("title style script")))
		wantNot(t, headed(el(name, comment(""))), headed(el(name, el("meta"))), headed(el(name, el("b"))), headed(el(name, text("a"), comment(""))))
	}
	for c := range 256 {
		want(t, headed(text(string([]byte{byte(c)}))), inList(string([]byte{byte(c)}), []string{"\t", "\n", "\f", " "}))
		want(t, headed(text(string([]byte{' ', byte(c)}))), inList(string([]byte{byte(c)}), []string{"\t", "\n", "\f", " "}))
	}
}

// rawElements are raw elements of a name, in all places where it may stand, with these kids.
func rawElements(name string, kids ...api.Tree) []api.Tree {
	var l []api.Tree
	if inList(name, flowRaws) {
		l = []api.Tree{page(el(name, kids...)), page(chain("p b", text("a"), el(name, kids...), text("b"))), page(row(el("td", el(name, kids...)))), page(chain("ul li", el(name, kids...)))}
	}
	if inList(name, words("title style script")) {
		l = append(l, headed(el(name, kids...)), headed(text("\n"), el(name, kids...), el("meta")))
	}
	return l
}

// rawNames are the raw elements that may be.
var rawNames = words("title style script textarea iframe noembed")

// P17.2, 3 and 4: the raw elements: no kid, or one text; nothing else.
func TestRawKids(t *testing.T) {
	a, b, c := text("a"), text(" "), comment("c")
	for _, name := range rawNames {
		for _, l := range [][]api.Tree{{}, {a}, {b}, {text("<b>&amp;\u00a0")}, {text("-->")}, {text("<!--")}, {text("a\n")}, {text("é\"")}, {text("<" + name + ">")}, {text(ofBytes(api.MaxText))}} {
			wantPlain(t, rawElements(name, l...)...)
		}
		for _, l := range [][]api.Tree{{a, a}, {a, b}, {b, a}, {c}, {comment("")}, {a, c}, {c, a}, {a, c, b}, {el("b")}, {el("br")}, {el("meta")}, {el(name)}, {el(name, a)}, {a, el("b")}, {el("b"), a}, {a, el("b"), a}, {el("title")}} {
			wantNot(t, rawElements(name, l...)...)
		}
	}
}

// P17.2, 3 and 4: in a raw element whose text is told as it is there is no `</`; in others there may be.
func TestRawEnds(t *testing.T) {
	for _, name := range rawNames {
		asItIs := inList(name, asTheyAre)
		for _, end := range []string{"</", "</" + name + ">", "</" + name, "</" + strings.ToUpper(name) + " ", "</b>", "</>", "<</", "</ ", "<!--</-->"} {
			for _, s := range []string{end, end + "a", "a" + end, "a" + end + "b", "<" + end, "\u00a0" + end, ofBytes(3000) + end} {
				for _, x := range rawElements(name, text(s)) {
					want(t, x, !asItIs)
				}
			}
		}
		for _, s := range []string{"<", "/", "< /", "/<", "a<", "<<", "<\n/", "&lt;/", "<" + name + "/>", "<!/", "\\/", "<a/", "<\u2044"} {
			wantPlain(t, rawElements(name, text(s))...)
		}
	}
	// Elsewhere it stands for itself.
	wantPlain(t, page(text("</p></")), page(el("p", text("</p>"))), page(el("b", text("</"))), page(with(el("iframe"), "a", "</iframe>")), headed(comment("</")))
}

// P17.2, 4: a textarea's text does not begin with a byte 10; P17.2, 5: nor does the first kid of a pre, of a listing, if that is a text.
func TestFirstLine(t *testing.T) {
	for _, s := range []string{"\n", "\n\n", "\na", "\n ", "\n\na"} {
		wantNot(t, rawElements("textarea", text(s))...)
		for _, name := range rawNames {
			if name != "textarea" {
				wantPlain(t, rawElements(name, text(s))...)
			}
		}
		for _, name := range words("pre listing") {
			for _, l := range [][]api.Tree{{text(s)}, {text(s), el("b")}, {text(s), comment("")}, {text(s), el("br"), text(s)}} {
				wantNot(t, places(el(name, l...))[0], places(el(name, l...))[3], page(row(el("td", el(name, l...)))), page(chain("div "+name, l...)))
			}
			for _, l := range [][]api.Tree{{comment(""), text(s)}, {el("b"), text(s)}, {el("b", text(s))}, {el("b", text(s)), text(s)}, {el("br"), text(s)}, {text("a"), el("i"), text(s)}, {el("div", text(s))}, {comment("\n")}, {comment("\n"), text(s)}, {el("script", text(s)), text(s)}} {
				wantPlain(t, page(el(name, l...)), page(text(s), el(name, l...), text(s)), page(row(el("td", el(name, l...)))), page(chain("b "+name, l...)))
			}
			wantNot(t, page(chain(name+" "+"pre", text(s))), page(chain(name+" div textarea", text(s))), page(el(name, comment(""), el("pre", text(s)))))
		}
	}
	for _, s := range []string{" \n", "a\n", "\t\n", "\f", "\u00a0\n", "&#10;", "\x0b"} {
		wantPlain(t, slices.Concat(rawElements("textarea", text(s)), []api.Tree{page(el("pre", text(s))), page(el("listing", text(s)))})...)
	}
	// Behind other tags it stays.
	for _, name := range names {
		if secondFlow(name, "body") && !inList(name, without, words("table pre listing textarea")) {
			wantPlain(t, page(el(name, text("\na"))), page(el(name, text("\n"))))
		}
	}
}

// kidOfBody tells whether an element of a name may be a kid of body.
func kidOfBody(name string) bool {
	switch {
	case inList(name, without), inList(name, flowRaws):
		return true
	case inList(name, words("nobr li dd dt")):
		return false
	case inList(name, blocks, headings, formats, words("p listing button table")):
		return true
	case inList(name, voids, specials, implied, markers, heads, raws, noOthers):
		return false
	}
	return true
}

// P17.2, 4: each name as a kid of body: which may be there, and which of these may have no kids, a text, other elements.
func TestEachNameInBody(t *testing.T) {
	for _, name := range names {
		may := kidOfBody(name)
		raw, empty, table := inList(name, flowRaws), inList(name, without), name == "table"
		want(t, page(el(name)), may)
		want(t, page(text("a"), el(name), comment("b"), el(name), text("c")), may)
		want(t, page(el("x-y", el(name))), may)
		want(t, page(el(name, text("a"))), may && !empty && !table)
		want(t, page(el(name, text(" "))), may && !empty)
		want(t, page(el(name, comment("a"))), may && !empty && !raw)
		want(t, page(el(name, el("br"))), may && !empty && !raw && !table)
		want(t, page(el(name, text("a"), el("i", text("b")), text("c"), comment(""))), may && !empty && !raw && !table)
		want(t, page(el(name, el(name))), may && !empty && !raw && !table && !inList(name, headings, words("p a button")))
	}
	for _, name := range noOthers {
		want(t, page(el(name)), name == "listing" || name == "button")
	}
}

// P17.2, 4: each name with and without kids where kids may not be: areas, breaks and others.
func TestWithoutKids(t *testing.T) {
	for _, name := range without {
		for _, l := range [][]api.Tree{{text("a")}, {text(" ")}, {comment("")}, {el("b")}, {el("br")}, {el(name)}, {text("a"), el("b")}} {
			wantNot(t, places(el(name, l...))...)
		}
		wantPlain(t, page(el(name)), page(el("div", with(el(name), "a", "1"))), page(el(name), text("a"), el(name)))
		if name != "hr" {
			wantPlain(t, places(el(name))...)
		}
	}
	for _, name := range words("base link meta") {
		wantNot(t, headed(el(name, text(" "))), headed(el(name, comment(""))), headed(el(name, el(name))), page(el(name)))
	}
	for _, k := range []api.Tree{text(" "), comment(""), el("col"), el("b")} {
		wantNot(t, page(chain("table colgroup col", k)))
	}
}

// contexts are ways into a page where elements of all names may be asked for: the last name is the parent, where nothing bars them but its name.
func contexts() []string {
	l := words("body")
	for _, name := range names {
		if kidOfBody(name) && !inList(name, without, flowRaws) {
			l = append(l, "body "+name)
		}
	}
	return append(l, "head", "body ul li", "body ol li", "body menu li", "body dl dd", "body dl dt",
		"body table caption", "body table colgroup", "body table tbody", "body table tfoot", "body table thead",
		"body table tbody tr", "body table tfoot tr", "body table thead tr", "body table tbody tr td", "body table thead tr th",
		"body ul b", "body dl div", "body dl ul", "body ul dl", "body ul li ul", "body ul li b", "body dl dd dl",
		"body table caption table", "body table tbody tr td table", "body dir", "body ul ul", "body noscript ul")
}

// within is a page with these nodes at the end of a way.
func within(way string, kids ...api.Tree) api.Tree {
	if way == "head" {
		return headed(kids...)
	}
	return root(el("html", el("head"), chain(way, kids...)))
}

// P17.2, 4: each name in each parent: what stands in lists, in tables, and in all else.
func TestEachNameInEachParent(t *testing.T) {
	for _, way := range contexts() {
		l := strings.Fields(way)
		wantPlain(t, within(way))
		for _, name := range names {
			x := within(way, el(name))
			want(t, x, secondPlace(name, append([]string{"", "html"}, l...)))
			want(t, within(way, comment("a"), el(name), el(name), comment("b")), secondPlain(x))
		}
		blanksAlone := inList(l[len(l)-1], words("head table colgroup tbody tfoot thead tr"))
		wantPlain(t, within(way, text(" ")), within(way, comment(""), text("\n\f \t"), comment("")), within(way, text("\f")), within(way, comment("c")))
		for _, s := range []string{"a", " a", "a ", "\u00a0", " . ", "\x0b", "&", "\u2003"} {
			want(t, within(way, text(s)), !blanksAlone)
			want(t, within(way, comment("c"), text(s)), !blanksAlone)
		}
	}
}

// P17.2, 4: li is a kid of ul, ol, menu; dd and dt are kids of dl; their own kids are flow.
func TestListItems(t *testing.T) {
	for _, name := range names {
		if !kidOfBody(name) || inList(name, without, flowRaws) {
			continue
		}
		for _, item := range words("li dd dt") {
			may := item == "li" && inList(name, lists) || item != "li" && name == "dl"
			want(t, page(el(name, el(item))), may)
			want(t, page(el(name, el(item, text("a")), el(item, el("p", text("b"))), text("c"), el("i"), el(item))), may)
			wantNot(t, page(el(name, el("span", el(item)))), page(el(name, el("div", el(item)))), page(chain("ul li "+name, el("b", el(item)))), page(chain("dl dt "+name, el("b", el(item)))))
		}
	}
	wantPlain(t,
		page(el("ul", text("a"), el("p"), el("li", el("ol", el("li", el("menu", el("li", el("dl", el("dt"), el("dd", el("ul", el("li")))))))), text("b")))),
		page(el("ul", el("li"), el("div"), el("li"), el("br"))),
		page(el("dl", el("dd"), el("dt"), el("dd"), el("dl"), text("x"))),
		page(row(el("td", el("ul", el("li"))))),
		page(chain("ul li div ul li h1 ul li")),
	)
	wantNot(t, page(el("li")), page(el("dd")), page(el("dt")), page(chain("ul li li")), page(chain("dl dd dt")), page(chain("ul dd")), page(chain("dl li")), page(chain("dir li")), page(chain("ul table li")), page(row(el("li"))), page(row(el("td", el("li")))), page(chain("ul ul b li")))
}

// P17.2, 4: tables: their parts in each other, in order and not, as often as one likes.
func TestTables(t *testing.T) {
	b, c := text(" \n"), comment("c")
	wantPlain(t,
		page(el("table")),
		page(el("table", b, c, el("caption"), b, c)),
		page(el("table", el("tbody"), el("thead"), el("caption"), el("colgroup"), el("tfoot"), el("caption"), el("colgroup"), el("tbody"))),
		page(el("table", el("colgroup", b, el("col"), c, with(el("col"), "span", "2"), b))),
		page(el("table", el("tfoot", b, el("tr", b, el("th"), c, el("td"), b), c, el("tr")))),
		page(row(el("td", text("a"), el("table"), text("b")), el("td", el("p"), row(el("th", row(el("td"))))))),
		page(el("table", el("caption", text("a"), el("p"), row(el("td", el("table", el("caption", el("hr")))))))),
		page(text("a"), el("b", el("table", el("caption", el("b")), el("tbody", el("tr", el("td", el("b", text("x"))))))), text("c")),
		page(el("div", el("table"), el("table"))),
		page(el("ul", el("table"), el("li", el("table")))),
	)
	wantNot(t,
		page(el("table", text("a"))), page(el("table", text("\u00a0"))), page(el("table", el("tr"))), page(el("table", el("td"))), page(el("table", el("col"))), page(el("table", el("p"))), page(el("table", el("table"))), page(el("table", el("style"))), page(el("table", el("script"))), page(el("table", el("input"))), page(el("table", el("form"))),
		page(chain("table tbody td")), page(chain("table tbody tbody")), page(chain("table tbody", text("a"))), page(chain("table tbody p")), page(chain("table tbody script")),
		page(row(text("a"))), page(row(el("tr"))), page(row(el("b"))), page(row(el("style"))), page(row(el("table"))), page(row(el("caption"))),
		page(chain("table colgroup", text("a"))), page(chain("table colgroup br")), page(chain("table colgroup colgroup")), page(chain("table colgroup tr")),
		page(chain("table caption caption")), page(chain("table caption tr")), page(chain("table caption col")), page(row(el("td", el("tr")))), page(row(el("td", el("td")))), page(row(el("td", el("tbody")))), page(row(el("th", el("caption")))), page(row(el("th", el("col")))),
		page(el("tbody")), page(el("tr")), page(el("td")), page(el("th")), page(el("caption")), page(el("colgroup")), page(el("col")), page(el("thead")), page(el("tfoot")),
		page(chain("b tr")), page(chain("table b tr")),
	)
}
