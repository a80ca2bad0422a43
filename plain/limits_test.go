package plain_test

import (
	"math"
	"reflect"
	"slices"
	"strings"
	"testing"

	"topiary/api"
	"topiary/plain"
	"topiary/serial"
	"topiary/tree"
)

// P17.2: trees that Check refuses are not plain, though nothing else bars them; those that are just not refused are.
func TestCheckRefuses(t *testing.T) {
	part := func(x api.Tree, turn func(*api.Tree)) api.Tree {
		turn(&x)
		return x
	}
	name := func(x *api.Tree) { x.Name = "x" }
	some := func(x *api.Tree) { x.Text = "x" }
	attr := func(x *api.Tree) { x.Attrs = []api.Attr{{Name: "a"}} }
	kids := func(x *api.Tree) { x.Kids = []api.Tree{comment("")} }
	wantNot(t,
		api.Tree{}, el("html", el("head"), el("body")), el("p"), text("a"), comment("a"), doctype("a"),
		part(page(), name), part(page(), some), part(page(), attr),
		page(part(el("p"), some)), root(part(html, some)), root(el("html", part(el("head"), some), el("body"))), root(el("html", el("head"), part(el("body"), some))), headed(part(el("meta"), some)), page(part(el("br"), some)),
		page(part(text("a"), name)), page(part(text("a"), attr)), page(part(text("a"), kids)), page(text("")), page(el("p", text(""))), headed(el("title", text(""))), headed(text("")), page(el("textarea", text(""))),
		page(part(comment("a"), name)), page(part(comment("a"), attr)), page(part(comment("a"), kids)), root(part(comment("a"), kids), html), root(part(comment(""), name), html),
		root(part(doctype("a"), some), html), root(part(doctype("a"), attr), html), root(part(doctype("a"), kids), html),
		page(doctype("a")), root(el("html", doctype("a"), el("head"), el("body"))), headed(doctype("a")), page(el("p", doctype("a"))),
		page(root()), root(root(), html), root(page()), page(el("p", root())),
		page(el("p", api.Tree{Kind: 0})), page(api.Tree{Kind: 6}), page(api.Tree{Kind: -2, Name: "p"}), page(api.Tree{Kind: 1<<32 + api.Element, Name: "p"}), page(api.Tree{Kind: math.MaxInt}),
		part(page(), func(x *api.Tree) { x.Kind = api.Element }), part(page(), func(x *api.Tree) { x.Kind = 0 }),
		page(with(el("p"), "b", "", "a", "")), page(with(el("p"), "a", "", "a", "")), page(with(el("p"), "A", "")), page(with(el("p"), "", "")), page(with(el("p"), "a b", "")), page(with(el("p"), "a=", "")),
	)
}

// filled is a page of just so many nodes.
func filled(nodes int) api.Tree {
	l := slices.Repeat([]api.Tree{el("br")}, nodes-4)
	return page(l...)
}

// P17.2: as many nodes, levels, attributes and bytes as Check says yes to, and one more.
func TestCheckLimits(t *testing.T) {
	wantPlain(t, filled(api.MaxNodes-1), filled(api.MaxNodes))
	wantNot(t, filled(api.MaxNodes+1), filled(2*api.MaxNodes))
	deep := func(levels int, name string) api.Tree { return page(chain(strings.Repeat(name+" ", levels-3))) }
	for _, name := range words("b div x-y section") {
		wantPlain(t, deep(api.MaxDepth-1, name), deep(api.MaxDepth, name))
		wantNot(t, deep(api.MaxDepth+1, name), deep(api.MaxDepth+5, name))
	}
	attrs := func(n int) api.Tree {
		x := el("p")
		for i := range n {
			x = with(x, string(rune('a'+i)), "")
		}
		return page(x)
	}
	wantPlain(t, attrs(api.MaxAttrs-1), attrs(api.MaxAttrs))
	wantNot(t, attrs(api.MaxAttrs+1))
	for _, x := range []func(string) api.Tree{
		func(s string) api.Tree { return page(text(s)) },
		func(s string) api.Tree { return page(comment(s)) },
		func(s string) api.Tree { return root(comment(s), html) },
		func(s string) api.Tree { return page(with(el("p"), "a", s)) },
		func(s string) api.Tree { return headed(el("title", text(s))) },
		func(s string) api.Tree { return headed(el("script", text(s))) },
		func(s string) api.Tree { return page(el("textarea", text(s))) },
	} {
		wantPlain(t, x(ofBytes(api.MaxText-1)), x(ofBytes(api.MaxText)))
		wantNot(t, x(ofBytes(api.MaxText+1)))
	}
	wantPlain(t, headed(text(strings.Repeat("\n", api.MaxText))))
	wantNot(t, headed(text(strings.Repeat("\n", api.MaxText+1))))
	wantPlain(t, root(doctype(ofBytes(api.MaxName)), html), page(el(ofBytes(api.MaxName))), page(with(el("p"), ofBytes(api.MaxName), "")))
	wantNot(t, root(doctype(ofBytes(api.MaxName+1)), html), page(el(ofBytes(api.MaxName+1))), page(with(el("p"), ofBytes(api.MaxName+1), "")))
}

// P17.2: a source of as many bytes as may be, and of one more; its bytes count, not those of its texts.
func TestSourceLimit(t *testing.T) {
	for _, x := range []func(s string) api.Tree{
		func(s string) api.Tree { return page(text(ofBytes(api.MaxText)), el("br"), text(s)) },
		func(s string) api.Tree { return page(comment(ofBytes(api.MaxText)), comment(s)) },
		func(s string) api.Tree { return root(comment(ofBytes(api.MaxText)), comment(s), html) },
		func(s string) api.Tree { return page(with(el("p"), "a", ofBytes(api.MaxText), "b", s)) },
		func(s string) api.Tree { return page(text(strings.Repeat("&", 830)), comment(s)) },
		func(s string) api.Tree { return page(text(strings.Repeat("\u00a0", 683)), comment(s)) },
		func(s string) api.Tree { return page(with(el("p"), "a", strings.Repeat("\"", 683)), text(s)) },
		func(s string) api.Tree {
			return headed(el("title", text(strings.Repeat("<", 1024))), el("style", text(s)))
		},
		func(s string) api.Tree {
			return headed(el("style", text(strings.Repeat("<", api.MaxText))), el("script", text(s)))
		},
		func(s string) api.Tree { return page(text(strings.Repeat("€", 1365)), el("textarea", text(s))) },
	} {
		rest := api.MaxSource - serial.Len(x(""))
		if rest < 2 || rest+2 > api.MaxText {
			t.Fatal("the test's own tree:", rest)
		}
		wantPlain(t, x(ofBytes(rest-1)), x(ofBytes(rest)))
		wantNot(t, x(ofBytes(rest+1)), x(ofBytes(rest+2)), x(ofBytes(rest-1)+"€"))
	}
	for _, s := range []string{"&", "<", ">", "\u00a0"} {
		n := (api.MaxSource - serial.Len(page())) / serial.Len(text(s))
		if n*len(s) <= api.MaxText {
			wantPlain(t, page(text(strings.Repeat(s, n))))
		}
		if (n+1)*len(s) <= api.MaxText {
			wantNot(t, page(text(strings.Repeat(s, n+1))))
		}
	}
}

// R1: trees that are far too deep, far too wide, and such as stand in themselves again and again: they are told not to be plain, and it ends.
func TestFarTooBig(t *testing.T) {
	deep := el("b")
	for range 1_000_000 {
		deep = el("b", deep)
	}
	not := func(x api.Tree) {
		t.Helper()
		if plain.Plain(x) {
			t.Error("plain")
		}
	}
	not(page(deep))
	not(root(deep))
	not(deep)
	not(headed(el("title", deep)))
	not(root(el("html", deep, deep)))
	double := text("a")
	for range 200 {
		double = el("b", double, el("br"), double)
	}
	not(page(double))
	not(root(double, double))
	wide := slices.Repeat([]api.Tree{el("br")}, 1_000_000)
	not(page(wide...))
	not(root(wide...))
	long := strings.Repeat("&", 1<<24)
	not(page(text(long)))
	not(page(el(long)))
	not(page(with(el("p"), "a", long)))
	not(page(with(el("p"), long, "a")))
	not(root(comment(long), html))
	not(root(doctype(long), html))
	not(page(api.Tree{Kind: api.Element, Name: "p", Attrs: slices.Repeat([]api.Attr{{Name: "a"}}, 1_000_000)}))
}

// R3, R4: what is handed in stays, spare room too, and each call says the same of it; nil and an empty list are one.
func TestPlainStays(t *testing.T) {
	seed := uint64(173)
	for i := range 300 {
		x := drawnPage(&seed)
		if i%2 == 1 {
			x = spoilt(&seed, x)
		}
		roomy, was := copied(x, 3), copied(x, 3)
		want := holds(t, x)
		for range 3 {
			if plain.Plain(roomy) != want || plain.Plain(copied(x, 0)) != want || plain.Plain(x) != want {
				t.Errorf("of %q Plain says this and that", short(serial.Text(x)))
			}
		}
		if !reflect.DeepEqual(spare(roomy), spare(was)) {
			t.Error("what was handed in was changed")
		}
	}
}

// copied is a tree in new memory, its lists with some spare room, empty ones for nil.
func copied(t api.Tree, room int) api.Tree {
	attrs := append(make([]api.Attr, 0, len(t.Attrs)+room), t.Attrs...)
	kids := make([]api.Tree, 0, len(t.Kids)+room)
	for _, k := range t.Kids {
		kids = append(kids, copied(k, room))
	}
	t.Attrs, t.Kids = attrs, kids
	return t
}

// spare is a tree with the spare room of its lists told, too.
func spare(t api.Tree) api.Tree {
	t.Attrs = slices.Clone(t.Attrs[:cap(t.Attrs)])
	t.Kids = slices.Clone(t.Kids[:cap(t.Kids)])
	for i, k := range t.Kids {
		t.Kids[i] = spare(k)
	}
	return t
}

// R4: trees that are the same in other lists are told the same, also where one subtree stands in several places.
func TestSharedSubtrees(t *testing.T) {
	p := el("p", text("a"), el("b"))
	l := []api.Tree{p, comment("c"), p, el("div", p, p), row(el("td", p), el("td", p))}
	wantPlain(t, page(l...), page(l[:2]...), page(l[1:4]...))
	wantNot(t, page(el("p", p)), page(el("div", el("p", l...))))
	if !tree.Check(page(l...)) {
		t.Error("the test's own tree")
	}
}
