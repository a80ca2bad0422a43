package plain_test

import (
	"slices"
	"testing"

	"topiary/api"
	"topiary/tree"
)

// places are trees in which a node stands in each of the places that there are, one after the other.
func places(x api.Tree) []api.Tree {
	return []api.Tree{
		page(x),
		page(text("a"), x, text("b")),
		page(chain("div b p span", x, comment(""))),
		page(chain("ul li", x)),
		page(chain("dl dd", comment("c"), x)),
		page(el("table", el("caption", x))),
		page(row(el("td"), el("th", x))),
		page(chain("button i", x)),
	}
}

// P17.2, 2: elements' names: each byte at the beginning, behind it and at the end.
func TestElementNames(t *testing.T) {
	for c := range 256 {
		b := string([]byte{byte(c)})
		first := c >= 'a' && c <= 'z'
		behind := first || c >= '0' && c <= '9' || c == '-'
		for _, x := range places(el(b + "zz")) {
			want(t, x, first)
		}
		want(t, page(el(b+"-1")), first)
		want(t, page(el(b+"z9-z")), first)
		for _, name := range []string{"zz" + b, "z" + b + "z", "z-" + b, "z9" + b + "0", "z" + b + b, ofBytes(api.MaxName-1) + b} {
			for _, x := range places(el(name)) {
				want(t, x, behind)
			}
		}
		// The names of pages' own elements are held against theirs byte by byte.
		wantNot(t, root(el("html"+b, el("head"), el("body"))), root(el("html", el("head"+b), el("body"))), root(el("html", el("head"), el(b+"body"))), headed(el("meta"+b)))
	}
	for _, name := range []string{"q", "x-", "x--", "x-1", "a0", "zzz9", "q-p", ofBytes(api.MaxName), "h7", "xn--a"} {
		wantPlain(t, places(el(name))...)
	}
	for _, name := range []string{"", "1", "1a", "-", "-a", "9-", "é", "aé", "a_", "a:b", "a.b", "A", "aB", "P", "BR", "a b", "p ", "p\x00", "ſ", "\u212a", "a\xff", ofBytes(api.MaxName + 1)} {
		wantNot(t, places(el(name))...)
	}
}

// P17.2, 2: attributes' names and values are Words, of all elements: of html, head and body, of those without kids, of raw ones, of a table's parts.
func TestAttributes(t *testing.T) {
	pages := func(l ...string) []api.Tree {
		at := func(x api.Tree) api.Tree { return with(x, l...) }
		return slices.Concat(places(at(el("span"))), []api.Tree{
			root(at(el("html", el("head"), el("body")))),
			root(el("html", at(el("head")), el("body"))),
			root(el("html", el("head"), at(el("body")))),
			headed(at(el("meta"))), headed(at(el("title"))), headed(at(el("script", text("a")))),
			page(at(el("br"))), page(at(el("hr"))), page(at(el("textarea", text("a")))), page(at(el("style"))), page(at(el("a", text("b")))), page(at(el("pre"))), page(at(el("x-y"))),
			page(at(el("table"))), page(el("table", at(el("caption")))), page(el("table", at(el("colgroup")))), page(chain("table colgroup", at(el("col")))),
			page(el("table", at(el("tfoot")))), page(chain("table thead", at(el("tr")))), page(row(at(el("td")))), page(chain("ul", at(el("li")))), page(chain("dl", at(el("dt")))),
		})
	}
	for c := range 256 {
		b := string([]byte{byte(c)})
		word := c > 0 && c != '\r' && c < 0x80
		for _, value := range []string{b, b + "a", "a" + b, "a" + b + "c"} {
			want(t, page(with(el("p"), "a", value)), word)
			want(t, page(with(el("p"), "a", "", "b", value, "c", "")), word)
		}
		may := word && tree.Name(b)
		for _, name := range []string{b, b + "a", "a" + b, "a" + b + "c"} {
			want(t, page(with(el("p"), name, "")), may)
			want(t, page(with(el("p"), name, "x", "\U0001f333", "")), may)
		}
	}
	for _, l := range [][]string{
		{"a", ""}, {"a", "\t\n\f \u00a0"}, {"a", "&\"'<>=`/"}, {"a", "&amp;&lt&#13;"}, {"a", "</p>"}, {"a", "--"}, {"a", "é\ufffd\U0001f333"}, {"a", "\n"},
		{"_", "1"}, {"1", "1"}, {"é", "1"}, {"-", "1"}, {"\x0b", "1"}, {"\u00a0", "x"}, {"xlink:href", "y"}, {"&lt;", "1"}, {"&", "1"}, {"`", "1"}, {ofBytes(api.MaxName), "1"},
		{"!", "", "a", "1", "b", "", "ü", "\""}, {"a", ofBytes(4000)},
		{"a", "", "b", "", "c", "", "d", "", "e", "", "f", "", "g", "", "h", "", "i", "", "j", "", "k", "", "l", "1"},
	} {
		wantPlain(t, pages(l...)...)
	}
	for _, l := range [][]string{
		{"a", "\x00"}, {"a", "\r"}, {"a", "\r\n"}, {"a", "\xff"}, {"a", "x\xc3"}, {"a", "\xed\xa0\x80"}, {"a", ofBytes(3000) + "\r"},
		{"\r", "a"}, {"a\r", ""}, {"\xff", ""}, {"a\xc3", ""}, {"\xc0\x80", ""}, {"\xed\xa0\x80", ""},
		{"a", "1", "b", "\r"}, {"a", "\x00", "b", "1"}, {"a", "1", "b\xff", "1"}, {"\x01\xff", "1", "b", "1"},
		{"a", "", "b", "", "c", "", "d", "", "e", "", "f", "", "g", "", "h", "", "i", "", "j", "", "k", "", "l", "\r"},
	} {
		wantNot(t, pages(l...)...)
	}
}

// P17.2, 2: texts are Words, wherever they stand.
func TestTexts(t *testing.T) {
	for _, s := range []string{"a", " ", "\n", "\t\n\f ", "\na", "a\n", "<b>", "</p>", "&", "&amp;", "&#13;", "\u00a0", "\ufffd", "\x01\x0b", "é€\U0001f333", "<!--", "--", "-->", "\"'"} {
		for _, x := range []api.Tree{page(text(s)), page(el("b", text(s))), page(el("p", text(s))), page(el("p", comment(""), text(s))), page(row(el("td", text(s)))), page(chain("ul", text(s))), page(chain("dl dt", text(s))), page(text(s), el("br"), text(s)), headed(el("title", text(s))), page(chain("table caption", text(s)))} {
			wantPlain(t, x)
		}
	}
	for _, s := range []string{"\x00", "\r", "\r\n", "\xff", "a\x00", "\ra", "é\xa9", "\xc0\x80", "\xed\xa0\x80", ofBytes(4000) + "\r"} {
		for _, x := range []api.Tree{page(text(s)), page(el("b", text(s))), page(el("p", comment(""), text(s))), page(row(el("td", text(s)))), page(chain("ul", text(s))), headed(el("title", text(s))), headed(el("style", text(s))), headed(el("script", text(s))), page(el("textarea", text(s))), page(el("iframe", text(s))), page(el("noembed", text(s))), page(el("script", text(s))), page(text("a"), el("br"), text(s)), headed(text(s)), page(el("table", text(s)))} {
			wantNot(t, x)
		}
	}
	for c := range 256 {
		s := string([]byte{byte(c)})
		want(t, page(text("a"+s)), secondWords(s))
		want(t, headed(el("script", text(s+"a"))), secondWords(s))
		want(t, page(el("textarea", text("a"+s+"a"))), secondWords(s))
	}
}

// P17.2, 2: no two texts are next to one another; what stands between parts them, even an empty comment.
func TestTextsNextToOneAnother(t *testing.T) {
	a, b, blank, c := text("a"), text("b"), text(" "), comment("")
	for _, in := range []string{"b", "p", "div", "ul", "pre", "x-y", "h1", "button"} {
		wantPlain(t, page(el(in, a, c, b)), page(el(in, a, el("br"), b, comment("c"), blank)), page(el(in, blank, c, blank)), page(el(in, a), b), page(a, el(in, b)), page(el(in, a), el(in, b)))
		wantNot(t, page(el(in, a, b)), page(el(in, a, blank)), page(el(in, blank, a)), page(el(in, blank, blank)), page(el(in, c, a, b)), page(el(in, a, c, a, b)), page(el(in, el("br"), a, b, el("br"))), page(el(in, a, b), c))
	}
	wantNot(t, page(a, b), page(c, a, b), page(row(el("td", a, b))), page(el("table", blank, blank)), page(el("table", el("caption", a, b))), page(chain("table tbody", blank, blank)), page(row(blank, blank)), page(chain("table colgroup", blank, blank)),
		headed(blank, blank), headed(el("title", a, b)), headed(el("script", a, b)), page(el("textarea", a, b)))
	wantPlain(t, page(a, c, b), headed(blank, c, blank), page(el("table", blank, c, blank)), page(row(blank, c, blank)))
}

// P17.2, 2: comments say what comments can say, wherever comments may stand.
func TestComments(t *testing.T) {
	pages := func(s string) []api.Tree {
		c := comment(s)
		return slices.Concat(places(c), []api.Tree{headed(c), headed(el("meta"), c, text(" ")), page(el("table", c)), page(chain("table colgroup", c)), page(chain("table tbody", c)), page(row(c)), page(el("ul", c)), page(el("pre", c))})
	}
	for _, s := range []string{"", "a", "-a", "a>", "a->b", "<!-a", "\n", "é", "<b>&amp;", ofBytes(api.MaxText)} {
		wantPlain(t, pages(s)...)
	}
	for _, s := range []string{"-", "<!-", "--", ">", "->", ">a", "->a", "a-", "a--b", "--!>", "a\r", "\x00", "\xff", ofBytes(4000) + "-"} {
		wantNot(t, pages(s)...)
	}
	for c := range 256 {
		s := string([]byte{byte(c)})
		want(t, page(comment("a"+s+"a")), secondWords(s))
		want(t, page(comment(s)), secondSays(s))
		want(t, headed(comment(s+"-a")), secondSays(s+"-a"))
	}
}
