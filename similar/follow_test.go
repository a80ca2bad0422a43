package similar_test

import (
	"reflect"
	"slices"
	"testing"

	"topiary/api"
	"topiary/similar"
	"topiary/tree"
)

// follows tells what follows of pairs: no node is in two, sorted by the number in a; the same with all in them; all in them are pairs, in order.
func follows(t *testing.T, a, b api.Tree, l []api.Pair) {
	t.Helper()
	x, y := nodesOf(a), nodesOf(b)
	ofA, ofB := map[int]int{}, map[int]int{}
	for i, p := range l {
		if i > 0 && p.A <= l[i-1].A {
			t.Errorf("not by the number in a: %v", l)
		}
		if _, is := ofB[p.B]; is {
			t.Errorf("%d of b is in two pairs: %v", p.B, l)
		}
		ofA[p.A], ofB[p.B] = p.B, p.A
	}
	for _, p := range l {
		if !tree.Same(x[p.A].tree, y[p.B].tree) {
			t.Errorf("%v: unlike nodes", p)
		}
		for k := range x[p.A].size {
			if in, is := ofA[p.A+k]; !is || in != p.B+k {
				t.Errorf("%v: %d in them is not a pair in order: %v", p, k, l)
			}
		}
	}
}

// left tells that no two nodes are left that are the same and could be a pair: of that Height or higher, no Root.
func left(t *testing.T, a, b api.Tree, least int, l []api.Pair) {
	t.Helper()
	x, y := nodesOf(a), nodesOf(b)
	freeA, freeB := slices.Clone(x), slices.Clone(y)
	for _, p := range l {
		freeA[p.A].size, freeB[p.B].size = 0, 0
	}
	for i := 1; i < len(x); i++ {
		for j := 1; j < len(y); j++ {
			if freeA[i].size > 0 && freeB[j].size > 0 && x[i].height >= least && tree.Same(x[i].tree, y[j].tree) {
				t.Errorf("%d and %d are the same, and free: %v", i, j, l)
			}
		}
	}
}

// P19.2, P19.3: of drawn trees, and such as are turned about.
func TestAlikeDrawn(t *testing.T) {
	seed := uint64(192)
	paired, nodes := 0, 0
	for i := range 4000 {
		a := drawnTree(&seed, 2+i%5)
		b := drawnTree(&seed, 2+i%4)
		if i%2 == 0 {
			b = a
			for range draw(&seed, 5) {
				b = turned(&seed, b)
			}
		}
		least := draw(&seed, 5) - 1
		l := similar.Alike(a, b, least)
		follows(t, a, b, l)
		wantSecond(t, a, b, least)
		if !tree.Same(a, b) {
			left(t, a, b, least, l)
		}
		// The other way round not always the same nodes are pairs, but as many.
		if back := similar.Alike(b, a, least); len(back) != len(l) {
			t.Errorf("%v and %v: %d pairs, the other way round %d", a, b, len(l), len(back))
		}
		paired, nodes = paired+len(l), nodes+tree.Size(a)
	}
	if nodes < 20000 || paired < nodes/4 || paired > nodes*9/10 {
		t.Errorf("%d of %d nodes in pairs: the trees don't tell enough", paired, nodes)
	}
}

// P19.2: all trees of few nodes against one another.
func TestAlikeSmall(t *testing.T) {
	var l []api.Tree
	for n := range 4 {
		for _, kids := range forests(n) {
			l = append(l, root(kids...))
		}
	}
	for _, a := range l {
		for _, b := range l {
			for least := 1; least <= 3; least++ {
				wantSecond(t, a, b, least)
			}
		}
	}
	if len(l) < 50 {
		t.Error(len(l))
	}
}

// forests are all lists of nodes with so many in all: elements, and texts that have one number of hash.
func forests(n int) [][]api.Tree {
	if n == 0 {
		return [][]api.Tree{nil}
	}
	var l [][]api.Tree
	for in := range n {
		for _, behind := range forests(n - 1 - in) {
			for _, kids := range forests(in) {
				l = append(l, append([]api.Tree{el("p", kids...)}, behind...))
			}
			if in == 0 {
				l = append(l, append([]api.Tree{text("b")}, behind...), append([]api.Tree{text("a\x00")}, behind...))
			}
		}
	}
	return l
}

// roomy is a tree in whose lists there is room, in which something stands.
func roomy(t api.Tree) api.Tree {
	t.Attrs = append(slices.Clone(t.Attrs), api.Attr{Name: "spare"}, api.Attr{Name: "room"})[:len(t.Attrs)]
	kids := make([]api.Tree, 0, len(t.Kids)+2)
	for _, k := range t.Kids {
		kids = append(kids, roomy(k))
	}
	t.Kids = append(kids, text("spare"), el("room"))[:len(kids)]
	return t
}

// empty is a tree none of whose lists is nil.
func empty(t api.Tree) api.Tree {
	t.Attrs = append([]api.Attr{}, t.Attrs...)
	kids := []api.Tree{}
	for _, k := range t.Kids {
		kids = append(kids, empty(k))
	}
	t.Kids = kids
	return t
}

// remembered is a tree with all that stands in its lists' room, as it is now.
func remembered(t api.Tree) api.Tree {
	t.Attrs = slices.Clone(t.Attrs[:cap(t.Attrs)])
	t.Kids = slices.Clone(t.Kids[:cap(t.Kids)])
	for i, k := range t.Kids {
		t.Kids[i] = remembered(k)
	}
	return t
}

// P19.2, R3: what is handed in is as it was; nil and empty lists are one, spare room is none.
func TestAlikeKeepsTrees(t *testing.T) {
	seed := uint64(193)
	for range 300 {
		a := drawnTree(&seed, 4)
		b := turned(&seed, a)
		want := similar.Alike(a, b, 1)
		for _, x := range [][2]api.Tree{{roomy(a), roomy(b)}, {empty(a), roomy(b)}, {roomy(a), empty(b)}, {a, empty(b)}} {
			was := [2]api.Tree{remembered(x[0]), remembered(x[1])}
			if got := similar.Alike(x[0], x[1], 1); !slices.Equal(got, want) {
				t.Errorf("%v, want %v", got, want)
			}
			if now := [2]api.Tree{remembered(x[0]), remembered(x[1])}; !reflect.DeepEqual(now, was) {
				t.Error("what was handed in was changed")
			}
		}
	}
}

// P19.2: one tree in several places is as good as copies of it.
func TestAlikeShared(t *testing.T) {
	k := el("p", text("a"), el("q"))
	one, copies := root(k, el("s", k, k)), root(copied(k), el("s", copied(k), copied(k)))
	other := root(el("s", k), k)
	want := similar.Alike(copies, copied(other), 1)
	if got := similar.Alike(one, other, 1); !slices.Equal(got, want) || len(want) != 6 {
		t.Errorf("%v, want %v", got, want)
	}
	wantAlike(t, one, copies, 9, themselves(11))
}

// R3, R4: each answer is its asker's: what is written to one is in no later one.
func TestAnswersAreNew(t *testing.T) {
	x := el("x", text("1"))
	a, b := root(x, text("2")), root(text("2"), x, x)
	want := pairs(1, 2, 2, 3, 3, 1)
	for range 3 {
		for _, c := range []struct {
			b    api.Tree
			want []api.Pair
		}{{b, want}, {a, themselves(4)}} {
			got := similar.Alike(a, c.b, 1)
			if !slices.Equal(got, c.want) {
				t.Errorf("%v, want %v", got, c.want)
			}
			got = got[:cap(got)]
			for i := range got {
				got[i] = api.Pair{A: 9, B: 9}
			}
		}
	}
}
