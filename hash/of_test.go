package hash_test

import (
	"math"
	"slices"
	"testing"

	"topiary/api"
	"topiary/hash"
)

// kinds are all that a node may be, and numbers that are no kind.
var kinds = []int{api.Root, api.Element, api.Text, api.Comment, api.Doctype, 0, 6, -1, 1 << 32, math.MinInt, math.MaxInt}

// P18.1: Of, step by step, of each Kind, with each part by itself and with all others, empty and not.
func TestOfParts(t *testing.T) {
	const name, words, attr, value = "name", "some words", "attr", "its value"
	x, y := text("kid"), with(el("p"), "a", "")
	kids := []uint64{2, mixed(3, 0, hash.Text("kid"), 0, 0), mixed(2, hash.Text("p"), 0, 1, hash.Text("a"), 0, 0)}
	for _, kind := range kinds {
		for parts := range 16 {
			n := api.Tree{Kind: kind}
			steps := [][]uint64{{0}, {0}, {0}, {0}}
			if parts&1 != 0 {
				n.Name, steps[0] = name, []uint64{hash.Text(name)}
			}
			if parts&2 != 0 {
				n.Text, steps[1] = words, []uint64{hash.Text(words)}
			}
			if parts&4 != 0 {
				n = with(n, attr, value, "", "")
				steps[2] = []uint64{2, hash.Text(attr), hash.Text(value), 0, 0}
			}
			if parts&8 != 0 {
				n.Kids, steps[3] = []api.Tree{x, y}, kids
			}
			want := mixed(uint64(kind), slices.Concat(steps...)...)
			if got := hash.Of(n); got != want {
				t.Errorf("Kind %d, parts %04b: %x, want %x", kind, parts, got, want)
			}
			wantAll(t, n)
		}
	}
}

// P18.1: Of some trees, as numbers: patches that were made name trees by these.
func TestOfStays(t *testing.T) {
	for _, c := range []struct {
		tree api.Tree
		want uint64
	}{
		{api.Tree{}, 0},
		{root(), 0xb5757ac6155901dd},
		{el("p"), 0xbc6ba8add3293d60},
		{text("a"), 0xa166afb51fc784f7},
		{comment(""), 0x9c15bbc5ffb9d2bf},
		{doctype("html"), 0x7040f66e7af4cb60},
		{api.Tree{Kind: -1}, 0xe3a6de7ddfe3e8a1},
		{page(), 0xb515f8761778acdc},
	} {
		if got := hash.Of(c.tree); got != c.want {
			t.Errorf("%v: %x, want %x", c.tree, got, c.want)
		}
	}
}

// unlike holds the numbers of trees against one another: no two of these have one.
func unlike(t *testing.T, trees ...api.Tree) {
	t.Helper()
	seen := map[uint64]api.Tree{}
	for _, x := range trees {
		h := hash.Of(x)
		if was, ok := seen[h]; ok {
			t.Errorf("%v and %v have one number", was, x)
		}
		seen[h] = x
		wantAll(t, x)
	}
}

// P18.1: the order of attributes, of kids; Name and Value the other way round; one text in other parts.
func TestOfOrder(t *testing.T) {
	p, q := el("p"), el("q")
	unlike(t, p, with(p, "a", "b"), with(p, "b", "a"),
		with(p, "a", "b", "c", "d"), with(p, "c", "d", "a", "b"), with(p, "b", "a", "c", "d"), with(p, "a", "b", "d", "c"), with(p, "a", "d", "c", "b"), with(p, "c", "b", "a", "d"),
		with(p, "a", ""), with(p, "", "a"), with(p, "", ""), with(p, "", "", "", ""), with(p, "a", "", "a", ""), with(p, "a", "", "", "a"), with(p, "ab", ""), with(p, "", "ab"))
	unlike(t, root(p, q), root(q, p), root(p), root(q), root(p, p), root(q, q), root(el("p", q)), root(el("q", p)), root(p, q, p), root(q, p, p), root(p, p, q), root(el("p", q), p), root(p, el("p", q)), root(p, el("q", p)), root(el("p", p), q))
	unlike(t, text("a"), comment("a"), doctype("a"), el("a"), api.Tree{Kind: api.Root, Text: "a"}, api.Tree{Kind: api.Root, Name: "a"}, root(text("a")), root(comment("a")), text("a\x00"), text(""), comment(""), doctype(""), el(""), root(), root(root()))
	unlike(t, root(text("a"), text("b")), root(text("ab")), root(text("b"), text("a")), root(text("a"), text("b"), text("")), root(text(""), text("ab")), root(text("ab"), text("")))
	unlike(t, with(el("p", q), "a", ""), el("p", with(q, "a", "")), root(with(p, "a", ""), q), root(p, with(q, "a", "")), with(root(p, q), "a", ""))
	unlike(t, el("p", q, q), el("p", el("q", q)), el("p", q, q, q), el("p", el("q", q), q), el("p", q, el("q", q)), el("p", el("q", q, q)), el("p", el("q", el("q", q))))
}

// shapes are all trees of n nodes whose names are a or b.
func shapes(n int) []api.Tree {
	var l []api.Tree
	for _, kids := range forests(n - 1) {
		l = append(l, el("a", kids...), el("b", kids...))
	}
	return l
}

// forests are all lists of such trees with n nodes in all.
func forests(n int) [][]api.Tree {
	if n == 0 {
		return [][]api.Tree{nil}
	}
	var l [][]api.Tree
	for first := 1; first <= n; first++ {
		for _, rest := range forests(n - first) {
			for _, x := range shapes(first) {
				l = append(l, append([]api.Tree{x}, rest...))
			}
		}
	}
	return l
}

// P18.1: all trees of up to five nodes, each named one of two names: each has a number of its own.
func TestOfShapes(t *testing.T) {
	var l []api.Tree
	for n := 1; n <= 5; n++ {
		l = append(l, shapes(n)...)
	}
	if len(l) != 2+4+16+80+448 {
		t.Fatal("the test's own trees:", len(l))
	}
	unlike(t, l...)
}
