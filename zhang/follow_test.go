package zhang_test

import (
	"reflect"
	"slices"
	"testing"

	"topiary/api"
	"topiary/tree"
	"topiary/zhang"
)

// follows tells what follows of two trees' distance and pairs.
func follows(t *testing.T, a, b api.Tree) int {
	t.Helper()
	n, e := zhang.Distance(a, b)
	back, f := zhang.Distance(b, a)
	if e != api.OK || f != api.OK || n != back {
		t.Errorf("%v and %v: %d, the other way round %d", a, b, n, back)
	}
	if (n == 0) != tree.Same(a, b) || n < 0 || n > tree.Size(a)+tree.Size(b) {
		t.Errorf("%v and %v: %d", a, b, n)
	}
	l, e := zhang.Mapping(a, b)
	if e != api.OK || worth(t, a, b, l) != n {
		t.Errorf("%v and %v: %v, of the distance %d", a, b, l, n)
	}
	return n
}

// worth is what pairs come to: the Cost of each, and 1 for each node in none; they rise in both trees, and no two of one name are apart at 3.
func worth(t *testing.T, a, b api.Tree, l []api.Pair) int {
	t.Helper()
	x, y := nodesOf(a), nodesOf(b)
	n := len(x) + len(y)
	for i, p := range l {
		cost := secondCost(x[p.A], y[p.B])
		if cost >= 3 || i > 0 && (p.A <= l[i-1].A || p.B <= l[i-1].B) {
			t.Errorf("%v and %v: %v", a, b, l)
		}
		n += cost - 2
	}
	return n
}

// nodesOf are a tree's nodes by their numbers.
func nodesOf(t api.Tree) []api.Tree {
	l := []api.Tree{t}
	for _, k := range t.Kids {
		l = append(l, nodesOf(k)...)
	}
	return l
}

// P20.2 to P20.4: of drawn trees, and such as are turned about.
func TestDrawn(t *testing.T) {
	seed := uint64(204)
	var found [2*api.MaxZhang + 1]int
	for i := range 6000 {
		a := drawnTree(&seed, api.MaxZhang)
		b := drawnTree(&seed, api.MaxZhang)
		if i%3 > 0 {
			b = a
			for range draw(&seed, 6) {
				b = turned(&seed, b)
			}
		}
		found[follows(t, a, b)]++
		wantSecond(t, a, b)
	}
	for n := range 12 {
		if found[n] < 20 {
			t.Errorf("%d pairs of trees are %d apart: they don't tell enough", found[n], n)
		}
	}
}

// P20.2 to P20.4: all small trees of few names against one another.
func TestSmall(t *testing.T) {
	var l []api.Tree
	for n := range 4 {
		for _, kids := range forests(n) {
			l = append(l, el("p", kids...))
		}
	}
	for i, a := range l {
		for j, b := range l {
			if i <= j {
				follows(t, a, b)
			}
			wantSecond(t, a, b)
		}
	}
	if len(l) < 150 {
		t.Error(len(l))
	}
}

// forests are all lists of nodes with so many in all: elements of two names, and two texts.
func forests(n int) [][]api.Tree {
	if n == 0 {
		return [][]api.Tree{nil}
	}
	var l [][]api.Tree
	for in := range n {
		for _, behind := range forests(n - 1 - in) {
			for _, kids := range forests(in) {
				l = append(l, append([]api.Tree{el("p", kids...)}, behind...), append([]api.Tree{el("q", kids...)}, behind...))
			}
			if in == 0 {
				l = append(l, append([]api.Tree{text("a")}, behind...), append([]api.Tree{text("b")}, behind...))
			}
		}
	}
	return l
}

// roomy is a tree in whose lists there is room, in which something stands.
func roomy(t api.Tree) api.Tree {
	t.Attrs = append(slices.Clone(t.Attrs), api.Attr{Name: "spare"}, api.Attr{Name: "room"})[:len(t.Attrs)]
	kids := make([]api.Tree, 0, len(t.Kids)+2)
	for _, k := range t.Kids {
		kids = append(kids, roomy(k))
	}
	t.Kids = append(kids, text("spare"), el("room"))[:len(kids)]
	return t
}

// empty is a tree none of whose lists is nil.
func empty(t api.Tree) api.Tree {
	t.Attrs = append([]api.Attr{}, t.Attrs...)
	kids := []api.Tree{}
	for _, k := range t.Kids {
		kids = append(kids, empty(k))
	}
	t.Kids = kids
	return t
}

// remembered is a tree with all that stands in its lists' room, as it is now.
func remembered(t api.Tree) api.Tree {
	t.Attrs = slices.Clone(t.Attrs[:cap(t.Attrs)])
	t.Kids = slices.Clone(t.Kids[:cap(t.Kids)])
	for i, k := range t.Kids {
		t.Kids[i] = remembered(k)
	}
	return t
}

// P20.1 to P20.3, R3: what is handed in is as it was; nil and empty lists are one, spare room is none.
func TestKeepsTrees(t *testing.T) {
	seed := uint64(203)
	for range 300 {
		a := drawnTree(&seed, api.MaxZhang)
		b := turned(&seed, a)
		want, wantPairs := wantSecond(t, a, b)
		for _, x := range [][2]api.Tree{{roomy(a), roomy(b)}, {empty(a), roomy(b)}, {roomy(a), empty(b)}, {a, empty(b)}} {
			was := [2]api.Tree{remembered(x[0]), remembered(x[1])}
			if n, l := wantSecond(t, x[0], x[1]); n != want || !slices.Equal(l, wantPairs) {
				t.Errorf("%d, %v, want %d, %v", n, l, want, wantPairs)
			}
			wantCost(t, x[0], x[1], secondCost(a, b))
			if now := [2]api.Tree{remembered(x[0]), remembered(x[1])}; !reflect.DeepEqual(now, was) {
				t.Error("what was handed in was changed")
			}
		}
	}
}

// P20.2, P20.3: one tree in several places is as good as copies of it.
func TestShared(t *testing.T) {
	k := el("p", text("a"))
	one, copies := root(k, el("s", k), k), root(copied(k), el("s", copied(k)), copied(k))
	wantApart(t, one, copies, 0, themselves(8))
	wantApart(t, one, root(k, k), 3, pairs(0, 0, 4, 1, 5, 2, 6, 3, 7, 4))
	wantApart(t, k, el("s", k, k), 3, pairs(0, 3, 1, 4))
}

// R3, R4: each answer is its asker's: what is written to one is in no later one.
func TestAnswersAreNew(t *testing.T) {
	a, b := root(el("x", text("1")), text("2")), root(text("2"), el("x", text("3")))
	want, wantPairs := secondSays(a, b)
	for range 3 {
		if n, e := zhang.Distance(a, b); n != want || e != api.OK {
			t.Error(n, e)
		}
		got, e := zhang.Mapping(a, b)
		if !slices.Equal(got, wantPairs) || e != api.OK {
			t.Errorf("%v, want %v", got, wantPairs)
		}
		got = got[:cap(got)]
		for i := range got {
			got[i] = api.Pair{A: 9, B: 9}
		}
	}
}
