package zhang_test

import (
	"slices"
	"testing"

	"topiary/api"
	"topiary/zhang"
)

// The signatures that the chapter lists.
var (
	_ func(a, b api.Tree) (int, api.Errno)        = zhang.Distance
	_ func(a, b api.Tree) ([]api.Pair, api.Errno) = zhang.Mapping
	_ func(a, b api.Tree) int                     = zhang.Cost
)

// Nodes.

func root(kids ...api.Tree) api.Tree { return api.Tree{Kind: api.Root, Kids: kids} }

func el(name string, kids ...api.Tree) api.Tree {
	return api.Tree{Kind: api.Element, Name: name, Kids: kids}
}

func text(s string) api.Tree { return api.Tree{Kind: api.Text, Text: s} }

func comment(s string) api.Tree { return api.Tree{Kind: api.Comment, Text: s} }

func doctype(name string) api.Tree { return api.Tree{Kind: api.Doctype, Name: name} }

// with is a node with attributes more: names and values, by turns.
func with(t api.Tree, l ...string) api.Tree {
	t.Attrs = slices.Clone(t.Attrs)
	for i := 0; i < len(l); i += 2 {
		t.Attrs = append(t.Attrs, api.Attr{Name: l[i], Value: l[i+1]})
	}
	return t
}

// chain is a node within n elements.
func chain(n int, t api.Tree) api.Tree {
	for range n {
		t = el("p", t)
	}
	return t
}

// most is a Root with so many kids.
func most(kids int) api.Tree {
	x := root()
	for range kids {
		x.Kids = append(x.Kids, text("t"))
	}
	return x
}

// pairs are pairs of numbers, two by two.
func pairs(l ...int) []api.Pair {
	var out []api.Pair
	for i := 0; i < len(l); i += 2 {
		out = append(out, api.Pair{A: l[i], B: l[i+1]})
	}
	return out
}

// themselves are the pairs of so many numbers with themselves.
func themselves(n int) []api.Pair {
	var out []api.Pair
	for i := range n {
		out = append(out, api.Pair{A: i, B: i})
	}
	return out
}

// sizeOf is how many nodes there are.
func sizeOf(t api.Tree) int {
	n := 1
	for _, k := range t.Kids {
		n += sizeOf(k)
	}
	return n
}

// A second reading of the chapter: forests are lists of trees that are cut up and put together, as its words say.

// branch is a tree whose nodes have their numbers.
type branch struct {
	id   int
	node api.Tree
	kids []branch
}

// branchOf is a tree with its numbers, from the next one on.
func branchOf(t api.Tree, next *int) branch {
	b := branch{id: *next, node: t}
	*next++
	for _, k := range t.Kids {
		b.kids = append(b.kids, branchOf(k, next))
	}
	return b
}

// secondCost is Cost, part by part.
func secondCost(a, b api.Tree) int {
	named := a.Kind == b.Kind && a.Name == b.Name
	switch {
	case named && a.Text == b.Text && slices.Equal(a.Attrs, b.Attrs):
		return 0
	case named:
		return 1
	}
	return 3
}

// second is what is known of the distances of two trees' forests, by what they are called.
type second map[string]int

// called is a forest by the numbers of its trees.
func called(f []branch) string {
	var l []byte
	for _, b := range f {
		l = append(l, byte('a'+b.id))
	}
	return string(l)
}

// opened is a forest with its last tree replaced by its kids.
func opened(f []branch) []branch {
	last := len(f) - 1
	return append(slices.Clone(f[:last]), f[last].kids...)
}

// costs are match, out and in, of two forests: how far that is; -1, where it can't be.
func (s second) costs(f, g []branch) [3]int {
	l := [3]int{-1, -1, -1}
	if len(f) > 0 && len(g) > 0 {
		x, y := f[len(f)-1], g[len(g)-1]
		l[0] = s.distance(x.kids, y.kids) + s.distance(f[:len(f)-1], g[:len(g)-1]) + secondCost(x.node, y.node)
	}
	if len(f) > 0 {
		l[1] = s.distance(opened(f), g) + 1
	}
	if len(g) > 0 {
		l[2] = s.distance(f, opened(g)) + 1
	}
	return l
}

// distance is the least of them.
func (s second) distance(f, g []branch) int {
	if len(f) == 0 && len(g) == 0 {
		return 0
	}
	call := called(f) + "/" + called(g)
	if n, is := s[call]; is {
		return n
	}
	least := -1
	for _, n := range s.costs(f, g) {
		if n >= 0 && (least < 0 || n < least) {
			least = n
		}
	}
	s[call] = least
	return least
}

// pairs are Mapping's, in the order in which they come.
func (s second) pairs(f, g []branch) []api.Pair {
	if len(f) == 0 && len(g) == 0 {
		return nil
	}
	n, l := s.distance(f, g), s.costs(f, g)
	switch {
	case l[0] == n:
		x, y := f[len(f)-1], g[len(g)-1]
		var out []api.Pair
		if secondCost(x.node, y.node) < 3 {
			out = append(out, api.Pair{A: x.id, B: y.id})
		}
		out = append(out, s.pairs(x.kids, y.kids)...)
		return append(out, s.pairs(f[:len(f)-1], g[:len(g)-1])...)
	case l[1] == n:
		return s.pairs(opened(f), g)
	}
	return s.pairs(f, opened(g))
}

// secondSays are the distance and the pairs of two trees that are not too big.
func secondSays(a, b api.Tree) (int, []api.Pair) {
	ofA, ofB := 0, 0
	f, g := []branch{branchOf(a, &ofA)}, []branch{branchOf(b, &ofB)}
	s := second{}
	n, l := s.distance(f, g), s.pairs(f, g)
	slices.SortFunc(l, func(p, q api.Pair) int { return p.A - q.A })
	return n, l
}

// wantSecond holds Distance and Mapping against the second reading, and tells what it says.
func wantSecond(t *testing.T, a, b api.Tree) (int, []api.Pair) {
	t.Helper()
	want, wantPairs := secondSays(a, b)
	if got, e := zhang.Distance(a, b); got != want || e != api.OK {
		t.Errorf("%v and %v: %d, %d, want %d", a, b, got, e, want)
	}
	if got, e := zhang.Mapping(a, b); !slices.Equal(got, wantPairs) || e != api.OK {
		t.Errorf("%v and %v: %v, %d, want %v", a, b, got, e, wantPairs)
	}
	return want, wantPairs
}

// wantApart holds Distance, either way round, and Mapping against what is wanted, and that against the second reading.
func wantApart(t *testing.T, a, b api.Tree, want int, wantPairs []api.Pair) {
	t.Helper()
	n, l := wantSecond(t, a, b)
	if n != want || !slices.Equal(l, wantPairs) {
		t.Errorf("the second reading says %d, %v, the test %d, %v", n, l, want, wantPairs)
	}
	if back, _ := wantSecond(t, b, a); back != want {
		t.Errorf("the other way round: %d, want %d", back, want)
	}
}

// Trees that are drawn.

// draw is a number from 0 to n - 1.
func draw(seed *uint64, n int) int {
	*seed = *seed*6364136223846793005 + 1442695040888963407
	return int(*seed >> 33 % uint64(n))
}

// pick is one of a list, drawn.
func pick[T any](seed *uint64, l ...T) T { return l[draw(seed, len(l))] }

// drawnNode is a drawn node without kids, of few names and texts.
func drawnNode(seed *uint64) api.Tree {
	return pick(seed, text("a"), text("b"), comment("a"), el("p"), el("p"), el("q"), with(el("p"), "id", "a"), with(el("p"), "id", "b"), doctype("p"))
}

// drawnTree is a drawn tree of from 1 to n nodes: it may be any, a Text with Kids too.
func drawnTree(seed *uint64, n int) api.Tree {
	x := drawnNode(seed)
	if draw(seed, 2) == 0 {
		x = root()
	}
	for range draw(seed, n) {
		in := &x
		for len(in.Kids) > 0 && draw(seed, 3) > 0 {
			in = &in.Kids[draw(seed, len(in.Kids))]
		}
		in.Kids = slices.Insert(in.Kids, draw(seed, len(in.Kids)+1), drawnNode(seed))
	}
	return x
}

// copied is a tree in new memory.
func copied(t api.Tree) api.Tree {
	t.Attrs, t.Kids = slices.Clone(t.Attrs), slices.Clone(t.Kids)
	for i, k := range t.Kids {
		t.Kids[i] = copied(k)
	}
	return t
}

// turned is a tree that is turned about in one place: kids in another order, one more, one less, one replaced by its kids, another node.
func turned(seed *uint64, x api.Tree) api.Tree {
	y := copied(x)
	n := &y
	for len(n.Kids) > 0 && draw(seed, 3) > 0 {
		n = &n.Kids[draw(seed, len(n.Kids))]
	}
	at := draw(seed, len(n.Kids)+1)
	switch there := at < len(n.Kids); {
	case there && draw(seed, 4) == 0:
		slices.Reverse(n.Kids)
	case there && draw(seed, 2) == 0:
		n.Kids = slices.Replace(n.Kids, at, at+1, n.Kids[at].Kids...)
	case draw(seed, 2) == 0 && sizeOf(x) < api.MaxZhang:
		n.Kids = slices.Insert(n.Kids, at, drawnNode(seed))
	default:
		other := drawnNode(seed)
		n.Kind, n.Name, n.Text, n.Attrs = other.Kind, other.Name, other.Text, other.Attrs
	}
	return y
}
