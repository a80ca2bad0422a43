package tree_test

import (
	"math"
	"strings"
	"testing"

	"topiary/api"
	"topiary/tree"
)

// long is a text of n bytes.
func long(n int) string { return strings.Repeat("x", n) }

// attrs are names and values of n attributes whose names rise.
func attrs(n int) []string {
	var l []string
	for i := range n {
		l = append(l, string(rune('a'+i)), "")
	}
	return l
}

// but is a node that is turned in one thing.
func but(t api.Tree, turn func(*api.Tree)) api.Tree {
	turn(&t)
	return t
}

func named(t api.Tree, s string) api.Tree { return but(t, func(t *api.Tree) { t.Name = s }) }

func worded(t api.Tree, s string) api.Tree { return but(t, func(t *api.Tree) { t.Text = s }) }

func inside(t api.Tree, kids ...api.Tree) api.Tree {
	return but(t, func(t *api.Tree) { t.Kids = kids })
}

// may are nodes that may be, wherever kids may be.
var may = []api.Tree{
	el("a"),
	el("a", text("x")),
	el("a", el("a", el("a")), comment("")),
	el(long(api.MaxName)),
	el("\r\xff"),
	with(el("a"), "a", ""),
	with(el("a"), "a", long(api.MaxText)),
	with(el("a"), "a", "<>\"'\x00\xff A"),
	with(el("a"), long(api.MaxName), ""),
	with(el("a"), "a", "2", "b", "1"),
	with(el("a"), "a", "", "aa", "", "b", "", "ba", "", "\xff", ""),
	with(el("a"), "-", "", "0", "", "_", "", "a", "", "z", "", "é", "", "\U00010000", ""),
	with(el("a"), attrs(api.MaxAttrs-1)...),
	with(el("a"), attrs(api.MaxAttrs)...),
	with(el("a", text("x")), "a", "1"),
	text("x"),
	text(" "),
	text("\x00\xff<p>"),
	text(long(api.MaxText)),
	comment(""),
	comment("x"),
	comment("-->\x00"),
	comment(long(api.MaxText)),
	{Kind: api.Element, Name: "a", Attrs: []api.Attr{}, Kids: []api.Tree{}},
	{Kind: api.Text, Text: "a", Attrs: []api.Attr{}, Kids: []api.Tree{}},
	{Kind: api.Comment, Attrs: []api.Attr{}, Kids: []api.Tree{}},
}

// mayNot are nodes that may not be, wherever they stand; each breaks one condition.
var mayNot = []api.Tree{
	{},
	root(),
	root(el("a")),
	{Kind: -1, Name: "a"},
	{Kind: 6, Name: "a"},
	{Kind: 6, Text: "a"},
	{Kind: math.MaxInt, Name: "a"},
	{Kind: math.MinInt, Name: "a"},
	{Kind: api.Element + 1<<8, Name: "a"},
	{Kind: api.Element + 1<<32, Name: "a"},
	{Kind: -api.Element, Name: "a"},

	el(""),
	el("", text("x")),
	el("A"),
	el("a b"),
	el("a\n"),
	el("/a"),
	el("a="),
	el("\x00"),
	el(long(api.MaxName + 1)),
	worded(el("a"), "x"),
	worded(el("a", text("x")), "x"),
	with(el("a"), attrs(api.MaxAttrs+1)...),
	with(el("a"), attrs(2*api.MaxAttrs)...),
	with(el("a"), "", ""),
	with(el("a"), "A", ""),
	with(el("a"), "a>", ""),
	with(el("a"), "a b", ""),
	with(el("a"), long(api.MaxName+1), ""),
	with(el("a"), "a", long(api.MaxText+1)),
	with(el("a"), "a", "", "b", long(api.MaxText+1)),
	with(el("a"), "a", "", "b<", ""),
	with(el("a"), "a", "", "b", "", "b'", "", "c", ""),
	with(el("a"), "b", "", "a", ""),
	with(el("a"), "b", "1", "a", "2"),
	with(el("a"), "aa", "", "a", ""),
	with(el("a"), "\xff", "", "a", ""),
	with(el("a"), "\U00010000", "", "\uffff", ""),
	with(el("a"), "a", "", "a", ""),
	with(el("a"), "a", "1", "a", "2"),
	with(el("a"), "a", "", "b", "", "b", ""),
	with(el("a"), "a", "", "c", "", "b", ""),
	with(el("a"), "b", "", "c", "", "a", ""),
	with(el("a"), "a", "", "b", "", "a", ""),

	text(""),
	text(long(api.MaxText + 1)),
	named(text("x"), "a"),
	with(text("x"), "a", ""),
	inside(text("x"), comment("")),
	inside(text("x"), text("y")),

	comment(long(api.MaxText + 1)),
	named(comment("x"), "a"),
	named(comment(""), "a"),
	with(comment("x"), "a", ""),
	inside(comment("x"), comment("")),
	inside(comment(""), text("y")),
}

// mayAtRoot are doctypes that may be kids of the Root, and nobody else's.
var mayAtRoot = []api.Tree{
	doctype("html"),
	doctype(""),
	doctype(long(api.MaxName)),
	doctype("A <>\x00"),
	{Kind: api.Doctype, Attrs: []api.Attr{}, Kids: []api.Tree{}},
}

// mayNotAtRoot are doctypes that may not be.
var mayNotAtRoot = []api.Tree{
	doctype(long(api.MaxName + 1)),
	worded(doctype("html"), "x"),
	worded(doctype(""), "x"),
	with(doctype("html"), "a", ""),
	inside(doctype("html"), text("x")),
	inside(doctype("html"), doctype("html")),
}

// atRoot are trees in which a node is the Root's kid.
func atRoot(x api.Tree) []api.Tree {
	return []api.Tree{
		root(x),
		root(el("p"), x),
		root(x, el("p")),
		root(doctype("html"), comment(""), el("p", text("a")), x, text("a")),
		root(el("p", el("p", el("p"))), x),
	}
}

// deeper are trees in which a node is an element's kid.
func deeper(x api.Tree) []api.Tree {
	return []api.Tree{
		root(el("p", x)),
		root(el("p", text("a"), x)),
		root(el("p", x, text("a")), text("b")),
		root(el("p"), el("p", el("p"), el("p", el("p"), x))),
		root(el("p", el("p", x), el("p")), el("p")),
		root(chain(50, x)),
		root(chain(40, el("p")), chain(20, el("p", text("a"), x)), text("b")),
	}
}

// saysOf holds Check of trees against what is wanted.
func saysOf(t *testing.T, why string, i int, l []api.Tree, want bool) {
	t.Helper()
	for k, x := range l {
		if tree.Check(x) != want {
			t.Errorf("%s %d, tree %d: Check is not %t", why, i, k, want)
		}
	}
}

// P5.2: each condition, at a kid and deeper; what just meets it, and what breaks it alone.
func TestCheckNodes(t *testing.T) {
	for i, x := range may {
		saysOf(t, "may, at the Root", i, atRoot(x), true)
		saysOf(t, "may, deeper", i, deeper(x), true)
		saysOf(t, "may, as t", i, []api.Tree{x}, false)
	}
	for i, x := range mayNot {
		saysOf(t, "may not, at the Root", i, atRoot(x), false)
		saysOf(t, "may not, deeper", i, deeper(x), false)
	}
	for i, x := range mayAtRoot {
		saysOf(t, "doctype, at the Root", i, atRoot(x), true)
		saysOf(t, "doctype, deeper", i, deeper(x), false)
		saysOf(t, "doctype, as t", i, []api.Tree{x}, false)
	}
	for i, x := range mayNotAtRoot {
		saysOf(t, "wrong doctype, at the Root", i, atRoot(x), false)
		saysOf(t, "wrong doctype, deeper", i, deeper(x), false)
	}
}

// P5.2: t itself.
func TestCheckRoot(t *testing.T) {
	saysOf(t, "a Root", 0, []api.Tree{
		root(),
		root(text("a")),
		root(doctype("a"), doctype("a"), text("a"), text("a")),
		{Kind: api.Root, Attrs: []api.Attr{}, Kids: []api.Tree{}},
	}, true)
	saysOf(t, "no Root", 0, []api.Tree{
		{},
		{Kids: []api.Tree{text("a")}},
		{Kind: -1},
		{Kind: 6},
		{Kind: api.Root + 1<<8},
		{Kind: api.Root + 1<<32},
		el("a"),
		el("a", text("a")),
		named(root(), "a"),
		named(root(text("a")), "html"),
		worded(root(), "a"),
		worded(root(text("a")), " "),
		with(root(), "a", ""),
		with(root(text("a")), "a", "1"),
	}, false)
}

// comb is an Element with n - 1 nodes in it, some of them deep.
func comb(n int) api.Tree {
	t := el("p")
	for n > 1 {
		if n%3 == 0 && n > 3 {
			t.Kids = append(t.Kids, el("q", el("r", text("x"))))
			n -= 3
			continue
		}
		t.Kids = append(t.Kids, comment(""))
		n--
	}
	return t
}

// P5.2: how many nodes.
func TestCheckNodesInAll(t *testing.T) {
	shapes := map[string]func(n int) api.Tree{
		"wide":          func(n int) api.Tree { return root(copies(n-1, comment(""))...) },
		"below a kid":   func(n int) api.Tree { return root(el("p", copies(n-2, text("x"))...)) },
		"in the middle": func(n int) api.Tree { return root(el("p"), el("p", copies(n-4, el("q"))...), el("p")) },
		"in pairs": func(n int) api.Tree {
			return root(append(copies((n-1)/2, el("p", text("x"))), copies((n-1)%2, text("x"))...)...)
		},
		"a comb": func(n int) api.Tree { return root(comb(n - 1)) },
		"deep too": func(n int) api.Tree {
			return root(chain(api.MaxDepth-3, el("p", copies(n-api.MaxDepth+1, text("x"))...)))
		},
		"deep at the end": func(n int) api.Tree {
			return root(append(copies(n-api.MaxDepth, text("x")), chain(api.MaxDepth-2, text("x")))...)
		},
		"doctypes": func(n int) api.Tree { return root(copies(n-1, doctype("html"))...) },
	}
	for name, shape := range shapes {
		for n, want := range map[int]bool{100: true, api.MaxNodes - 1: true, api.MaxNodes: true, api.MaxNodes + 1: false, api.MaxNodes + 2: false, 2 * api.MaxNodes: false, 1 << 16: false} {
			x := shape(n)
			if count(x) != n {
				t.Fatalf("%s: the test's own tree of %d nodes has %d", name, n, count(x))
			}
			if tree.Check(x) != want {
				t.Errorf("%s: Check of %d nodes is not %t", name, n, want)
			}
		}
	}
}

// count is how many nodes there are, by the test's own way.
func count(t api.Tree) int {
	n := 1
	for _, k := range t.Kids {
		n += count(k)
	}
	return n
}

// P5.2: how deep.
func TestCheckDepth(t *testing.T) {
	for n, want := range map[int]bool{2: true, api.MaxDepth - 1: true, api.MaxDepth: true, api.MaxDepth + 1: false, api.MaxDepth + 2: false, 2 * api.MaxDepth: false, 250: false} {
		for k, leaf := range []api.Tree{text("x"), comment(""), el("p"), with(el("p"), "a", "1")} {
			x := chain(n-2, leaf) // the Root and the leaf are two more
			saysOf(t, "depth", 1000*n+k, []api.Tree{
				root(x),
				root(text("a"), x),
				root(x, text("a")),
				root(el("p"), x, el("p")),
			}, want)
		}
	}
	// Deep in a way that a sum of all levels, or of one path alone, would tell otherwise.
	saysOf(t, "two deep ones", 0, []api.Tree{root(chain(50, el("p")), chain(50, el("p")), chain(50, el("p")))}, true)
	saysOf(t, "the second too deep", 0, []api.Tree{root(chain(58, el("p")), chain(59, el("p")))}, false)
}

// P5.2, R1: Check of what is far too big ends, and says no.
func TestCheckFarTooBig(t *testing.T) {
	smallStack(t)
	saysOf(t, "far too big", 0, []api.Tree{
		root(chain(veryDeep, text("x"))),
		chain(veryDeep, text("x")),
		root(copies(1<<20, text("x"))...),
		root(twofold(9)),
		root(twofold(50)),
		root(twofold(1000)),
		endless(),
		root(with(el("p"), attrs(1<<16)...)),
		root(el(long(1 << 24))),
		root(text(long(1 << 24))),
	}, false)
}
