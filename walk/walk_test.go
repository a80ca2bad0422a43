package walk_test

import (
	"math"
	"reflect"
	"slices"
	"strings"
	"testing"

	"topiary/api"
	"topiary/tree"
	"topiary/walk"
)

// The signatures that the chapter lists.
var (
	_ func(api.Tree) []walk.Item               = walk.Flat
	_ func(api.Tree) []int                     = walk.Post
	_ func(api.Tree, int) (api.Tree, bool)     = walk.Sub
	_ func(api.Tree, int) []int                = walk.Path
	_ func(l []walk.Item, id int, of int) bool = walk.Within
	_ func(api.Tree) string                    = walk.Text
	_                                          = walk.Item{Parent: 0, Size: 0, Depth: 0, Height: 0, Place: 0, Node: api.Tree{}}
)

func root(kids ...api.Tree) api.Tree { return api.Tree{Kind: api.Root, Kids: kids} }

func el(name string, kids ...api.Tree) api.Tree {
	return api.Tree{Kind: api.Element, Name: name, Kids: kids}
}

func text(s string) api.Tree { return api.Tree{Kind: api.Text, Text: s} }

func comment(s string) api.Tree { return api.Tree{Kind: api.Comment, Text: s} }

func doctype(name string) api.Tree { return api.Tree{Kind: api.Doctype, Name: name} }

// with is a node with attributes: names and values, by turns.
func with(t api.Tree, l ...string) api.Tree {
	t.Attrs = nil
	for i := 0; i < len(l); i += 2 {
		t.Attrs = append(t.Attrs, api.Attr{Name: l[i], Value: l[i+1]})
	}
	return t
}

// page is a tree of all kinds, with kids of kids of unlike depths; its numbers are at the sides.
func page() api.Tree {
	return root( // 0
		doctype("html"), // 1
		with(el("a", // 2
			text("x"), // 3
			with(el("b", // 4
				el("c", // 5
					text("in c"), // 6
				),
				comment("in b"), // 7
				text("!"),       // 8
			), "k", "1"),
			el("d"), // 9
		), "id", "2", "z", ""),
		text("y"),   // 10
		comment(""), // 11
		el("e", // 12
			el("f"), // 13
		),
	)
}

// known is a tree, and what the functions are to say of it.
type known struct {
	tree  api.Tree
	items []walk.Item
	post  []int
	subs  []api.Tree
	paths [][]int
	text  string
}

// item is an Item: Parent, Size, Depth, Height, Place, Node.
func item(parent, size, depth, height, place int, node api.Tree) walk.Item {
	return walk.Item{Parent: parent, Size: size, Depth: depth, Height: height, Place: place, Node: node}
}

// knownPage is page with what is known of it.
func knownPage() known {
	x := page()
	a, e := x.Kids[1], x.Kids[4]
	b := a.Kids[1]
	return known{
		tree: x,
		items: []walk.Item{
			item(-1, 14, 0, 5, 0, root()),
			item(0, 1, 1, 1, 0, doctype("html")),
			item(0, 8, 1, 4, 1, with(el("a"), "id", "2", "z", "")),
			item(2, 1, 2, 1, 0, text("x")),
			item(2, 5, 2, 3, 1, with(el("b"), "k", "1")),
			item(4, 2, 3, 2, 0, el("c")),
			item(5, 1, 4, 1, 0, text("in c")),
			item(4, 1, 3, 1, 1, comment("in b")),
			item(4, 1, 3, 1, 2, text("!")),
			item(2, 1, 2, 1, 2, el("d")),
			item(0, 1, 1, 1, 2, text("y")),
			item(0, 1, 1, 1, 3, comment("")),
			item(0, 2, 1, 2, 4, el("e")),
			item(12, 1, 2, 1, 0, el("f")),
		},
		post:  []int{1, 3, 6, 5, 7, 8, 4, 9, 2, 10, 11, 13, 12, 0},
		subs:  []api.Tree{x, doctype("html"), a, text("x"), b, el("c", text("in c")), text("in c"), comment("in b"), text("!"), el("d"), text("y"), comment(""), e, el("f")},
		paths: [][]int{nil, {0}, {1}, {1, 0}, {1, 1}, {1, 1, 0}, {1, 1, 0, 0}, {1, 1, 1}, {1, 1, 2}, {1, 2}, {2}, {3}, {4}, {4, 0}},
		text:  "xin c!y",
	}
}

// single is a node without kids with what is known of it.
func single(n api.Tree, says string) known {
	return known{n, []walk.Item{item(-1, 1, 0, 1, 0, n)}, []int{0}, []api.Tree{n}, [][]int{nil}, says}
}

// knowns are trees of which it is known what is to be said.
func knowns() []known {
	p := with(el("p", comment("c"), el("b", text("1")), text("2")), "a", "1")
	return []known{
		knownPage(),
		single(root(), ""),
		single(with(el("p"), "a", "", "b", "2"), ""),
		single(text("only"), "only"),
		single(comment("says nothing"), ""),
		single(doctype("html"), ""),
		single(api.Tree{}, ""),
		{ // the chapter's example
			tree:  root(el("p", text("t"))),
			items: []walk.Item{item(-1, 3, 0, 3, 0, root()), item(0, 2, 1, 2, 0, el("p")), item(1, 1, 2, 1, 0, text("t"))},
			post:  []int{2, 1, 0},
			subs:  []api.Tree{root(el("p", text("t"))), el("p", text("t")), text("t")},
			paths: [][]int{nil, {0}, {0, 0}},
			text:  "t",
		},
		{ // its top is no Root
			tree: p,
			items: []walk.Item{
				item(-1, 5, 0, 3, 0, with(el("p"), "a", "1")),
				item(0, 1, 1, 1, 0, comment("c")),
				item(0, 2, 1, 2, 1, el("b")),
				item(2, 1, 2, 1, 0, text("1")),
				item(0, 1, 1, 1, 2, text("2")),
			},
			post:  []int{1, 3, 2, 4, 0},
			subs:  []api.Tree{p, comment("c"), el("b", text("1")), text("1"), text("2")},
			paths: [][]int{nil, {0}, {1}, {1, 0}, {2}},
			text:  "12",
		},
		{ // the deepest of its kids is neither the first nor the last one
			tree: root(el("a"), el("b", el("c", el("d"))), el("e", el("f"))),
			items: []walk.Item{
				item(-1, 7, 0, 4, 0, root()),
				item(0, 1, 1, 1, 0, el("a")),
				item(0, 3, 1, 3, 1, el("b")),
				item(2, 2, 2, 2, 0, el("c")),
				item(3, 1, 3, 1, 0, el("d")),
				item(0, 2, 1, 2, 2, el("e")),
				item(5, 1, 2, 1, 0, el("f")),
			},
			post:  []int{1, 4, 3, 2, 6, 5, 0},
			subs:  []api.Tree{root(el("a"), el("b", el("c", el("d"))), el("e", el("f"))), el("a"), el("b", el("c", el("d"))), el("c", el("d")), el("d"), el("e", el("f")), el("f")},
			paths: [][]int{nil, {0}, {1}, {1, 0}, {1, 0, 0}, {2}, {2, 0}},
		},
	}
}

// sameItem tells whether two Items say the same.
func sameItem(a, b walk.Item) bool {
	return a.Parent == b.Parent && a.Size == b.Size && a.Depth == b.Depth && a.Height == b.Height && a.Place == b.Place && tree.Same(a.Node, b.Node)
}

// sayItems holds Flat against what is wanted.
func sayItems(t *testing.T, x api.Tree, want []walk.Item) {
	t.Helper()
	got := walk.Flat(x)
	if len(got) != len(want) {
		t.Errorf("Flat: %d nodes, want %d", len(got), len(want))
		return
	}
	for id := range want {
		if !sameItem(got[id], want[id]) {
			t.Errorf("Flat, %d: %+v, want %+v", id, got[id], want[id])
		}
		if got[id].Node.Kids != nil {
			t.Errorf("Flat, %d: the node has Kids", id)
		}
	}
}

// sayNode holds Sub and Path of a number against what is wanted.
func sayNode(t *testing.T, x api.Tree, id int, sub api.Tree, path []int) {
	t.Helper()
	if got, ok := walk.Sub(x, id); !ok || !tree.Same(got, sub) {
		t.Errorf("Sub of %d: %v, %t, want %v", id, got, ok, sub)
	}
	if got := walk.Path(x, id); !slices.Equal(got, path) {
		t.Errorf("Path of %d: %v, want %v", id, got, path)
	}
}

// strange are numbers that no tree of up to 10,000 nodes has.
var strange = []int{math.MinInt, math.MinInt + 1, -1 << 32, -1 << 31, -2, -1, 10000, 1 << 16, 1 << 31, 1 << 32, 1<<32 + 1, math.MaxInt - 1, math.MaxInt}

// noNode asks for numbers that are none of a tree of so many nodes.
func noNode(t *testing.T, x api.Tree, size int) {
	t.Helper()
	for _, id := range append([]int{size, size + 1}, strange...) {
		if got, ok := walk.Sub(x, id); ok || !reflect.DeepEqual(got, api.Tree{}) {
			t.Errorf("Sub of %d: %v, %t", id, got, ok)
		}
		if got := walk.Path(x, id); got != nil {
			t.Errorf("Path of %d: %v", id, got)
		}
	}
}

// P7.1: each function, of trees of which it is known; Sub and Path of each number, and of others.
func TestKnown(t *testing.T) {
	for i, k := range knowns() {
		sayItems(t, k.tree, k.items)
		if got := walk.Post(k.tree); !slices.Equal(got, k.post) {
			t.Errorf("Post: %v, want %v", got, k.post)
		}
		for id := range k.items {
			sayNode(t, k.tree, id, k.subs[id], k.paths[id])
		}
		if got := walk.Path(k.tree, 0); got != nil {
			t.Errorf("Path of 0: %v, want nil", got)
		}
		noNode(t, k.tree, len(k.items))
		if got := walk.Text(k.tree); got != k.text {
			t.Errorf("Text: %q, want %q", got, k.text)
		}
		if t.Failed() {
			t.Fatal("tree", i)
		}
	}
}

// pageWithin are the numbers of page's nodes that are within each one.
var pageWithin = [][]int{
	{0, 1, 2, 3, 4, 5, 6, 7, 8, 9, 10, 11, 12, 13},
	{1},
	{2, 3, 4, 5, 6, 7, 8, 9},
	{3},
	{4, 5, 6, 7, 8},
	{5, 6},
	{6},
	{7},
	{8},
	{9},
	{10},
	{11},
	{12, 13},
	{13},
}

// P7.1: Within, of all numbers, both ways round, and of numbers below 0 and beyond the list.
func TestWithin(t *testing.T) {
	l := walk.Flat(page())
	for of, in := range pageWithin {
		for id := range pageWithin {
			if got := walk.Within(l, id, of); got != slices.Contains(in, id) {
				t.Errorf("Within(l, %d, %d) is %t", id, of, got)
			}
		}
	}
	others := append([]int{len(l), len(l) + 1}, strange...)
	for _, s := range others {
		for id := range pageWithin {
			if walk.Within(l, id, s) || walk.Within(l, s, id) {
				t.Errorf("Within of %d and %d", id, s)
			}
		}
		for _, other := range others {
			if walk.Within(l, s, other) {
				t.Errorf("Within(l, %d, %d) is true", s, other)
			}
		}
	}
}

// P7.1, R1: Within by an empty list, by one node's, and by lists that are nobody's Flat: it ends.
func TestWithinAnyList(t *testing.T) {
	one := walk.Flat(text("x"))
	numbers := append([]int{0, 1, 2, 3}, strange...)
	for _, id := range numbers {
		for _, of := range numbers {
			if walk.Within(nil, id, of) || walk.Within([]walk.Item{}, id, of) {
				t.Errorf("an empty list: Within of %d and %d", id, of)
			}
			if got := walk.Within(one, id, of); got != (id == 0 && of == 0) {
				t.Errorf("one node: Within of %d and %d is %t", id, of, got)
			}
			for _, n := range numbers {
				i := walk.Item{Parent: n, Size: n, Depth: n, Height: n, Place: n}
				if walk.Within([]walk.Item{i, i, i}, id, of) && (id < 0 || id > 2 || of < 0 || of > 2) {
					t.Errorf("Sizes of %d: Within of %d and %d", n, id, of)
				}
			}
		}
	}
	ring := []walk.Item{{Parent: 1}, {Parent: 2}, {Parent: 0}}
	if walk.Within(ring, 3, 0) || !walk.Within(ring, 2, 2) {
		t.Error("parents in a ring")
	}
}

// P7.1: Text of texts at unlike depths, with nodes between them that say nothing; all bytes of them.
func TestText(t *testing.T) {
	for _, c := range []struct {
		tree api.Tree
		want string
	}{
		{root(text("a"), text("b"), text("a")), "aba"},
		{root(text("a"), comment("no"), text("b")), "ab"},
		{root(comment("no"), doctype("no"), with(el("no"), "no", "no")), ""},
		{root(el("p", text("1"), el("q", text("2"), el("r", text("3")), text("4")), text("5")), text("6")), "123456"},
		{root(el("p", el("q", el("r", text("deep"))), comment("no")), comment("no"), text("high")), "deephigh"},
		{el("p", text(" "), comment("-"), text("\n"), el("b"), text(" ")), " \n "},
		{root(text("\x00"), text("\xe2\x82"), text("\xac"), text("\xff<p>&amp;")), "\x00€\xff<p>&amp;"},
		{root(text("a"), text(""), text("b")), "ab"},
		{root(text(strings.Repeat("x", 1<<16)), el("p", text(strings.Repeat("y", 1<<16)))), strings.Repeat("x", 1<<16) + strings.Repeat("y", 1<<16)},
		{api.Tree{Kind: api.Element, Name: "p", Text: "no", Kids: []api.Tree{text("x")}}, "x"},
		{api.Tree{Kind: api.Text, Text: "1", Kids: []api.Tree{text("2"), comment("no"), el("p", text("3"))}}, "123"},
		{root(api.Tree{Kind: api.Text + 256, Text: "no"}, api.Tree{Kind: -api.Text, Text: "no"}, api.Tree{Text: "no"}), ""},
	} {
		if got := walk.Text(c.tree); got != c.want {
			t.Errorf("Text: %.60q, want %.60q", got, c.want)
		}
	}
}

// P7.1: trees that may not be by tree's Check are gone through like others.
func TestAnyNodes(t *testing.T) {
	odd := api.Tree{Kind: math.MinInt, Name: "A b", Text: "t", Attrs: []api.Attr{{Name: "z"}, {Name: "a"}, {Name: "a"}}}
	x := api.Tree{Kind: api.Text, Name: "n", Text: "t", Kids: []api.Tree{odd, root(odd, doctype("")), {Kind: 6, Kids: []api.Tree{{}}}}}
	bare := x
	bare.Kids = nil
	sayItems(t, x, []walk.Item{
		item(-1, 7, 0, 3, 0, bare),
		item(0, 1, 1, 1, 0, odd),
		item(0, 3, 1, 2, 1, root()),
		item(2, 1, 2, 1, 0, odd),
		item(2, 1, 2, 1, 1, doctype("")),
		item(0, 2, 1, 2, 2, api.Tree{Kind: 6}),
		item(5, 1, 2, 1, 0, api.Tree{}),
	})
	if got := walk.Post(x); !slices.Equal(got, []int{1, 3, 4, 2, 6, 5, 0}) {
		t.Error("Post:", got)
	}
	sayNode(t, x, 2, root(odd, doctype("")), []int{1})
	sayNode(t, x, 3, odd, []int{1, 0})
	sayNode(t, x, 6, api.Tree{}, []int{2, 0})
	noNode(t, x, 7)
}

// P7.1: a tree that stands in several places has a number in each of them.
func TestOneInManyPlaces(t *testing.T) {
	p := el("p", text("x"))
	for range 8 {
		p = el("q", p, p)
	}
	x := root(p)
	l := walk.Flat(x)
	if want := 1 + (1<<8 - 1) + 2<<8; len(l) != want || tree.Size(x) != want || l[0].Size != want || l[0].Height != 11 {
		t.Fatal(len(l), want, l[0].Size, l[0].Height)
	}
	if got := walk.Text(x); got != strings.Repeat("x", 1<<8) {
		t.Error("Text:", len(got))
	}
	asPaths(t, x)
}
