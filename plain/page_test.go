package plain_test

import (
	"strings"
	"testing"

	"topiary/api"
)

// The chapter's example.
func TestExample(t *testing.T) {
	wantNot(t, page(el("p", el("div"))))
	wantPlain(t, page(el("div", el("p"))))
}

// html is an html as it should be.
var html = el("html", el("head"), el("body"))

// P17.2, 1: the Root's kids: comments, at most one doctype, and one html behind them.
func TestRootKids(t *testing.T) {
	d, c := doctype("html"), comment("c")
	wantPlain(t,
		root(html),
		root(c, html),
		root(c, comment(""), comment(" "), html),
		root(d, html),
		root(c, d, html),
		root(d, c, html),
		root(c, c, d, c, c, html),
	)
	wantNot(t,
		root(),
		root(c),
		root(d),
		root(c, d),
		root(d, d, html),
		root(d, doctype("x"), html),
		root(d, c, d, html),
		root(html, d),
		root(d, html, d),
		root(html, c),
		root(c, html, c),
		root(d, html, c),
		root(html, html),
		root(html, c, html),
		root(d, html, html),
		root(html, text(" ")),
		root(html, text("\n")),
		root(text(" "), html),
		root(text("a"), html),
		root(c, text("\n"), html),
		root(html, el("p")),
		root(el("p"), html),
		root(el("html"), html),
		root(el("head"), el("body")),
		root(el("body")),
		root(el("p")),
		root(text("a")),
		root(el("htm", el("head"), el("body"))),
		root(el("div", el("head"), el("body"))),
		root(el("html", html.Kids[0], html)),
	)
	for _, name := range names {
		want(t, root(el(name, el("head"), el("body"))), name == "html")
		wantNot(t, root(el(name), html), root(html, el(name)))
	}
}

// P17.2, 1: comments ahead of html say what comments can say.
func TestRootComments(t *testing.T) {
	for _, s := range []string{"", "a", "-a", "a>", "<html>", "<!doctype a>", "\n", "ü"} {
		wantPlain(t, root(comment(s), html), root(doctype("a"), comment(s), html))
	}
	for _, s := range []string{"-", "--", ">", "->", "a-", "a--b", "\r", "\x00", "\xff"} {
		wantNot(t, root(comment(s), html), root(doctype("a"), comment(s), html), root(comment(s), doctype("a"), html), root(comment("a"), comment(s), html))
	}
}

// P17.2, 1: the doctype's name: it has a byte, and none of those that are barred.
func TestDoctypeName(t *testing.T) {
	wantNot(t, root(doctype(""), html))
	for c := range 256 {
		b := string([]byte{byte(c)})
		may := c < 0x80 && (c < 'A' || c > 'Z') && !strings.ContainsAny(b, "\x00\t\n\f\r >")
		for _, s := range []string{b, b + "a", "a" + b, "a" + b + "c", b + b, "\u00e9" + b, "\x01" + b, ofBytes(api.MaxName-1) + b} {
			want(t, root(doctype(s), html), may)
			want(t, root(comment("c"), doctype(s), comment("c"), html), may)
		}
	}
	for _, s := range []string{"html", "a\"b'", "--", "--!", "<", "<!--", "!", "[a]", "&gt;", "&", "é", "Ä", "\u212a", "\u00a0", "\u2003", "\x0b", "\x01", "\ufffd", "\ufeff", "\U0001f333", "/", "=", "svg/x=\"1\"", ofBytes(api.MaxName)} {
		wantPlain(t, root(doctype(s), html))
	}
	for _, s := range []string{"Html", "hTML", "html ", " html", "html public", "a\nb", "a\r\nb", "a>b", ">", "-->", "\xc3", "é\xa9", "\xc0\x80", ofBytes(api.MaxName + 1)} {
		wantNot(t, root(doctype(s), html))
	}
}

// P17.2, 1: html has two kids, the elements head and body: no fewer, no more, no other ones, not the other way round.
func TestHTMLKids(t *testing.T) {
	h, b, c := el("head"), el("body"), comment("c")
	wantPlain(t, root(el("html", h, b)), root(with(el("html", with(h, "a", "1"), with(b, "b", "2")), "c", "3")))
	for _, l := range [][]api.Tree{
		{}, {h}, {b}, {b, h}, {h, h}, {b, b}, {h, h, b}, {h, b, b}, {h, b, h}, {b, h, b},
		{c}, {c, h, b}, {h, c, b}, {h, b, c}, {h, c}, {c, b},
		{text(" "), h, b}, {h, text(" "), b}, {h, b, text(" ")}, {h, text("\n")}, {text("a"), b}, {h, text("body")}, {text("head"), b}, {comment("head"), comment("body")},
		{h, el("p")}, {h, el("p"), b}, {el("p"), b}, {h, b, el("p")}, {el("p"), h, b},
		{h, el("frameset")}, {h, el("html")}, {el("html"), b}, {el("header"), b}, {h, el("bod")}, {h, el("body ")},
		{el("title"), h, b}, {h, el("meta"), b},
	} {
		wantNot(t, root(el("html", l...)), root(comment("a"), doctype("a"), with(el("html", l...), "a", "b")))
	}
	for _, name := range names {
		want(t, root(el("html", el(name), b)), name == "head")
		want(t, root(el("html", h, el(name))), name == "body")
		wantNot(t, root(el("html", h, b, el(name))), root(el("html", h, el(name), b)), root(el("html", el(name), h, b)), root(el("html", el(name))))
	}
}
