package walk_test

import (
	"slices"
	"strconv"
	"testing"

	"topiary/api"
	"topiary/tree"
	"topiary/walk"
)

// spot is a node in the second, plain way: the places that lead to it, and itself with all in it.
type spot struct {
	path []int
	node api.Tree
}

// spots are a tree's nodes in the order of their paths. All else is told by the paths alone: what begins with a node's path is in it.
func spots(t api.Tree) []spot {
	l := []spot{{nil, t}}
	for i := 0; i < len(l); i++ {
		for place, k := range l[i].node.Kids {
			l = append(l, spot{append(slices.Clone(l[i].path), place), k})
		}
	}
	slices.SortFunc(l, func(a, b spot) int { return slices.Compare(a.path, b.path) })
	return l
}

// begins tells whether a path begins with another one.
func begins(path, with []int) bool {
	return len(path) >= len(with) && slices.Equal(path[:len(with)], with)
}

// itemOf is the Item of the spot of a number.
func itemOf(l []spot, id int) walk.Item {
	s := l[id]
	want := walk.Item{Parent: -1, Depth: len(s.path), Node: s.node}
	want.Node.Kids = nil
	for i, other := range l {
		if begins(other.path, s.path) {
			want.Size++
			want.Height = max(want.Height, len(other.path)-len(s.path)+1)
		}
		if len(other.path)+1 == len(s.path) && begins(s.path, other.path) {
			want.Parent = i
		}
	}
	if len(s.path) > 0 {
		want.Place = s.path[len(s.path)-1]
	}
	return want
}

// postOf are the numbers of spots, those in a node ahead of it.
func postOf(l []spot) []int {
	var ids []int
	for id := range l {
		ids = append(ids, id)
	}
	slices.SortFunc(ids, func(a, b int) int {
		p, q := l[a].path, l[b].path
		if begins(p, q) || begins(q, p) {
			return len(q) - len(p)
		}
		return slices.Compare(p, q)
	})
	return ids
}

// asPaths holds all that the functions say of a tree against its paths.
func asPaths(t *testing.T, x api.Tree) {
	t.Helper()
	l := spots(x)
	var items []walk.Item
	texts := ""
	for id, s := range l {
		items = append(items, itemOf(l, id))
		sayNode(t, x, id, s.node, s.path)
		if s.node.Kind == api.Text {
			texts += s.node.Text
		}
	}
	sayItems(t, x, items)
	noNode(t, x, len(l))
	if got, want := walk.Post(x), postOf(l); !slices.Equal(got, want) {
		t.Errorf("Post: %v, want %v", got, want)
	}
	if got := walk.Text(x); got != texts {
		t.Errorf("Text: %q, want %q", got, texts)
	}
	flat := walk.Flat(x)
	for id := range l {
		for of := range l {
			if got := walk.Within(flat, id, of); got != begins(l[id].path, l[of].path) {
				t.Errorf("Within(l, %d, %d) is %t", id, of, got)
			}
		}
	}
}

// marked is a tree of the same shape in which no two nodes are the same, and those without kids are of several kinds.
func marked(t api.Tree, next *int) api.Tree {
	n := *next
	*next++
	mark := strconv.Itoa(n)
	if len(t.Kids) == 0 && n%4 != 0 {
		return []api.Tree{text(mark), comment(mark), text("t" + mark)}[n%3]
	}
	var kids []api.Tree
	for _, k := range t.Kids {
		kids = append(kids, marked(k, next))
	}
	return with(el("n"+mark, kids...), "a", mark)
}

// forests are all lists of trees that have n nodes in all.
func forests(n int) [][]api.Tree {
	if n == 0 {
		return [][]api.Tree{nil}
	}
	var l [][]api.Tree
	for first := 1; first <= n; first++ {
		for _, kids := range forests(first - 1) {
			for _, rest := range forests(n - first) {
				l = append(l, append([]api.Tree{el("p", kids...)}, rest...))
			}
		}
	}
	return l
}

// P7.1: trees of all shapes of up to 8 nodes.
func TestAllShapes(t *testing.T) {
	trees := 0
	for n := range 8 {
		for _, kids := range forests(n) {
			trees++
			next := 0
			x := marked(root(kids...), &next)
			if next != n+1 || tree.Size(x) != n+1 {
				t.Fatal("the test's own tree:", x)
			}
			asPaths(t, x)
			if t.Failed() {
				t.Fatal(x)
			}
		}
	}
	if trees != 1+1+2+5+14+42+132+429 {
		t.Error("the test's own shapes:", trees)
	}
}

// draws are numbers that look drawn, and are the same ones each time.
type draws uint64

// below is a number from 0 to n - 1.
func (s *draws) below(n int) int {
	*s = *s*6364136223846793005 + 1442695040888963407
	return int(*s>>33) % n
}

// drawn is a tree of n nodes; the greater the reach, the more kids of one node, the less the deeper.
func (s *draws) drawn(n, reach int) api.Tree {
	parent := make([]int, n)
	for i := 1; i < n; i++ {
		parent[i] = max(0, i-1-s.below(reach))
	}
	nodes := make([]api.Tree, n)
	for i := n - 1; i >= 0; i-- {
		nodes[i].Kind = api.Root
		if i > 0 {
			nodes[parent[i]].Kids = append(nodes[parent[i]].Kids, nodes[i])
		}
	}
	next := 0
	return marked(nodes[0], &next)
}

// P7.1: drawn trees, deep ones and wide ones.
func TestDrawn(t *testing.T) {
	for seed := range 60 {
		s := draws(seed)
		n := 9 + s.below(90)
		x := s.drawn(n, 1+s.below(n))
		if tree.Size(x) != n {
			t.Fatal("the test's own tree:", x)
		}
		asPaths(t, x)
		if t.Failed() {
			t.Fatalf("seed %d: %v", seed, x)
		}
	}
}
