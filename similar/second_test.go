package similar_test

import (
	"slices"
	"testing"

	"topiary/api"
	"topiary/similar"
	"topiary/tree"
)

// The signatures that the chapter lists.
var (
	_ func(a, b api.Tree, least int) []api.Pair = similar.Alike
	_ func(common, sum, common2, sum2 int) int  = similar.Dice
	_ func(common, sum int) bool                = similar.Half
)

// Nodes.

func root(kids ...api.Tree) api.Tree { return api.Tree{Kind: api.Root, Kids: kids} }

func el(name string, kids ...api.Tree) api.Tree {
	return api.Tree{Kind: api.Element, Name: name, Kids: kids}
}

func text(s string) api.Tree { return api.Tree{Kind: api.Text, Text: s} }

func comment(s string) api.Tree { return api.Tree{Kind: api.Comment, Text: s} }

func doctype(name string) api.Tree { return api.Tree{Kind: api.Doctype, Name: name} }

// with is a node with attributes more: names and values, by turns.
func with(t api.Tree, l ...string) api.Tree {
	t.Attrs = slices.Clone(t.Attrs)
	for i := 0; i < len(l); i += 2 {
		t.Attrs = append(t.Attrs, api.Attr{Name: l[i], Value: l[i+1]})
	}
	return t
}

// page is a tree of all kinds, with kids of kids of unlike depths; its numbers are at the sides.
func page() api.Tree {
	return root( // 0
		doctype("html"), // 1
		with(el("html", // 2
			el("head", el("title", text("Yew & box"))), // 3, 4, 5
			with(el("body", // 6
				el("h1", text("Yew")), // 7, 8
				el("p", text("cut in "), el("b", text("May")), comment(" twice ")), // 9, 10, 11, 12, 13
			), "class", "b", "id", "a"),
		), "lang", "en"),
	)
}

// chain is a node within n elements.
func chain(n int, t api.Tree) api.Tree {
	for range n {
		t = el("p", t)
	}
	return t
}

// pairs are pairs of numbers, two by two.
func pairs(l ...int) []api.Pair {
	var out []api.Pair
	for i := 0; i < len(l); i += 2 {
		out = append(out, api.Pair{A: l[i], B: l[i+1]})
	}
	return out
}

// themselves are the pairs of so many numbers with themselves.
func themselves(n int) []api.Pair {
	var out []api.Pair
	for i := range n {
		out = append(out, api.Pair{A: i, B: i})
	}
	return out
}

// A second reading of the chapter: no number of hash, no list of walk; every two nodes are held against one another.

// node is a node with all in it, and how big that is.
type node struct {
	tree         api.Tree
	size, height int
}

// nodesOf are a tree's nodes by their numbers.
func nodesOf(t api.Tree) []node {
	l := []node{{tree: t, size: 1, height: 1}}
	for _, k := range t.Kids {
		in := nodesOf(k)
		l[0].size += len(in)
		l[0].height = max(l[0].height, in[0].height+1)
		l = append(l, in...)
	}
	return l
}

// heights are the Heights that some node of a list has.
func heights(l []node) map[int]int {
	m := map[int]int{}
	for _, n := range l {
		m[n.height]++
	}
	return m
}

// secondAlike is Alike by a plain search.
func secondAlike(a, b api.Tree, least int) []api.Pair {
	if !tree.Check(a) || !tree.Check(b) {
		return nil
	}
	x, y := nodesOf(a), nodesOf(b)
	if tree.Same(a, b) {
		return themselves(len(x))
	}
	ofA, ofB := map[int]int{}, map[int]int{}
	top := 0
	for h := range heights(x) {
		if heights(y)[h] > 0 {
			top = max(top, h)
		}
	}
	for h := top; h >= least && h >= 1; h-- {
		for i := range x {
			if _, is := ofA[i]; is || i == 0 || x[i].height != h {
				continue
			}
			for j := range y {
				if _, is := ofB[j]; is || j == 0 || y[j].height != h || !tree.Same(x[i].tree, y[j].tree) {
					continue
				}
				for k := range x[i].size {
					ofA[i+k], ofB[j+k] = j+k, i+k
				}
				break
			}
		}
	}
	var l []api.Pair
	for i := range x {
		if j, is := ofA[i]; is {
			l = append(l, api.Pair{A: i, B: j})
		}
	}
	return l
}

// wantAlike holds Alike against what is wanted, and that against the second reading.
func wantAlike(t *testing.T, a, b api.Tree, least int, want []api.Pair) {
	t.Helper()
	if got := similar.Alike(a, b, least); !slices.Equal(got, want) {
		t.Errorf("least %d: %v, want %v", least, got, want)
	}
	if second := secondAlike(a, b, least); !slices.Equal(second, want) {
		t.Errorf("least %d: the second reading says %v, the test %v", least, second, want)
	}
}

// wantSecond holds Alike against the second reading.
func wantSecond(t *testing.T, a, b api.Tree, least int) {
	t.Helper()
	if got, want := similar.Alike(a, b, least), secondAlike(a, b, least); !slices.Equal(got, want) {
		t.Errorf("%v and %v, least %d: %v, want %v", a, b, least, got, want)
	}
}

// Trees that are drawn.

// draw is a number from 0 to n - 1.
func draw(seed *uint64, n int) int {
	*seed = *seed*6364136223846793005 + 1442695040888963407
	return int(*seed >> 33 % uint64(n))
}

// pick is one of a list, drawn.
func pick[T any](seed *uint64, l ...T) T { return l[draw(seed, len(l))] }

// drawnNode is a drawn node of at most so many levels. There are few names and texts: much of it is there twice, and some that is unlike has one number.
func drawnNode(seed *uint64, levels int) api.Tree {
	if levels <= 1 || draw(seed, 3) == 0 {
		return pick(seed, text("b"), text("a\x00"), text("b"), comment("a"), el("p"), with(el("p"), "id", "b"), with(el("p"), "id", "a\x00"))
	}
	x := el(pick(seed, "p", "q"))
	if draw(seed, 4) == 0 {
		x = with(x, pick(seed, "id", "class"), pick(seed, "b", "a\x00"))
	}
	for range draw(seed, 4) {
		x.Kids = append(x.Kids, drawnNode(seed, levels-1))
	}
	return x
}

// drawnTree is a drawn tree that may be, of at most so many levels.
func drawnTree(seed *uint64, levels int) api.Tree {
	for {
		t := root()
		for range 1 + draw(seed, 4) {
			t.Kids = append(t.Kids, drawnNode(seed, levels-1))
		}
		if draw(seed, 3) == 0 {
			t.Kids = append(t.Kids, doctype(pick(seed, "b", "a\x00")))
		}
		if tree.Check(t) {
			return t
		}
	}
}

// copied is a tree in new memory.
func copied(t api.Tree) api.Tree {
	t.Attrs, t.Kids = slices.Clone(t.Attrs), slices.Clone(t.Kids)
	for i, k := range t.Kids {
		t.Kids[i] = copied(k)
	}
	return t
}

// turned is a tree that is turned about in one place: kids in another order, one more, one less, one twice, another text or name.
func turned(seed *uint64, x api.Tree) api.Tree {
	y := copied(x)
	n := &y
	for len(n.Kids) > 0 && draw(seed, 4) > 0 {
		k := &n.Kids[draw(seed, len(n.Kids))]
		if k.Kind != api.Element {
			break
		}
		n = k
	}
	switch kids := len(n.Kids); {
	case kids > 0 && draw(seed, 2) == 0:
		slices.Reverse(n.Kids)
	case kids > 0 && draw(seed, 2) == 0:
		at := draw(seed, kids)
		n.Kids = append(n.Kids[:at], n.Kids[at+1:]...)
	case kids > 0 && draw(seed, 2) == 0:
		n.Kids = append(n.Kids, copied(n.Kids[draw(seed, kids)]))
	case n.Kind == api.Element && draw(seed, 2) == 0:
		n.Name = pick(seed, "p", "q", "s")
	default:
		n.Kids = append(n.Kids, drawnNode(seed, 2))
	}
	if !tree.Check(y) {
		return x
	}
	return y
}
