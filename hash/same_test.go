package hash_test

import (
	"reflect"
	"slices"
	"strings"
	"testing"

	"topiary/api"
	"topiary/hash"
	"topiary/tree"
)

// made is a tree made again of its parts: its lists are what lists says of them.
func made(t api.Tree, attrs func([]api.Attr) []api.Attr, kids func([]api.Tree) []api.Tree) api.Tree {
	var l []api.Tree
	for _, k := range t.Kids {
		l = append(l, made(k, attrs, kids))
	}
	n := api.Tree{Kind: t.Kind, Name: strings.Clone(t.Name), Text: strings.Clone(t.Text)}
	n.Attrs, n.Kids = attrs(t.Attrs), kids(l)
	return n
}

// exact is a list without room behind it; nil, if it is empty.
func exact[T any](l []T) []T { return append([]T(nil), l...) }

// empty is a list that is not nil.
func empty[T any](l []T) []T { return append([]T{}, l...) }

// roomy is a list with room behind it, in which something stands.
func roomy[T any](x T) func([]T) []T {
	return func(l []T) []T { return append(slices.Clone(l), x, x, x)[:len(l)] }
}

// alike are trees that are the same as t, part by part, but not in memory.
func alike(t api.Tree) []api.Tree {
	a, k := api.Attr{Name: "spare", Value: "attribute"}, el("spare", text("kid"))
	return []api.Tree{
		made(t, exact[api.Attr], exact[api.Tree]),
		made(t, empty[api.Attr], empty[api.Tree]),
		made(t, roomy(a), roomy(k)),
		made(t, exact[api.Attr], roomy(k)),
		made(t, roomy(a), empty[api.Tree]),
	}
}

// remembered is a tree with all that stands in its lists' room, as it is now.
func remembered(t api.Tree) api.Tree {
	t.Attrs = slices.Clone(t.Attrs[:cap(t.Attrs)])
	t.Kids = slices.Clone(t.Kids[:cap(t.Kids)])
	for i, k := range t.Kids {
		t.Kids[i] = remembered(k)
	}
	return t
}

// said is all that is said of a tree.
type said struct {
	of  uint64
	key [2]uint64
	all []uint64
}

// say asks all of a tree, which is not turned by that.
func say(t *testing.T, x api.Tree) said {
	t.Helper()
	was := remembered(x)
	s := said{hash.Of(x), hash.Key(x), hash.All(x)}
	if !reflect.DeepEqual(remembered(x), was) {
		t.Error("what was handed in was changed")
	}
	return s
}

// P18.2: a tree, and one that is made again of its parts, have the same Of, All and Key; what is handed in is as it was.
func TestSame(t *testing.T) {
	seed := uint64(182)
	trees := []api.Tree{{}, root(), el("p"), with(el("p"), "a", ""), text(""), text("abcdefgh"), page(), comb(60)}
	for i := range 1200 {
		trees = append(trees, drawnTree(&seed, 1+i%5, i%2 == 1))
	}
	for _, x := range trees {
		want := say(t, x)
		for i, y := range alike(x) {
			if !tree.Same(x, y) {
				t.Fatal("the test's own trees:", i)
			}
			if got := say(t, y); !reflect.DeepEqual(got, want) {
				t.Errorf("made again in way %d it is told %x, want %x", i, got, want)
			}
		}
	}
}

// P18.2: one tree in several places, and copies of it there, are the same.
func TestSameShared(t *testing.T) {
	seed := uint64(1820)
	for range 200 {
		k := drawnTree(&seed, 4, false)
		l := alike(k)
		one, copies := root(k, el("p", k, k), k), root(l[0], el("p", l[1], l[2]), l[3])
		if got, want := say(t, one), say(t, copies); !reflect.DeepEqual(got, want) {
			t.Errorf("%x, want %x", got, want)
		}
	}
}

// turned is a tree of which one part of one node is another one.
func turned(seed *uint64, x api.Tree) api.Tree {
	x = made(x, exact[api.Attr], exact[api.Tree])
	n := &x
	for len(n.Kids) > 0 && draw(seed, 4) > 0 {
		n = &n.Kids[draw(seed, len(n.Kids))]
	}
	switch draw(seed, 6) {
	case 0:
		n.Kind ^= 1 << draw(seed, 62)
	case 1:
		n.Name += pick(seed, "\x00", "a")
	case 2:
		n.Text += pick(seed, "\x00", "a")
	case 3:
		*n = with(*n, drawnText(seed), drawnText(seed))
	case 4:
		n.Kids = append(n.Kids, text(""))
	case 5:
		if last := len(n.Attrs) - 1; last >= 0 {
			n.Attrs[last].Value += "\x00"
		}
	}
	return x
}

// P18.2: of drawn trees, and such with one part turned, those and only those that are the same have one number. (Unlike ones may have one, too; none of these has.)
func TestUnlike(t *testing.T) {
	seed := uint64(1821)
	is := 0
	for i := range 6000 {
		x := drawnTree(&seed, 1+i%5, i%2 == 1)
		y := turned(&seed, x)
		same := tree.Same(x, y)
		if same != (hash.Of(x) == hash.Of(y)) || same != (hash.Key(x) == hash.Key(y)) {
			t.Errorf("%v and %v: the same: %t", x, y, same)
		}
		if same {
			is++
		}
	}
	if is < 100 || is > 2000 {
		t.Errorf("%d of 6000 are the same: the trees don't tell enough", is)
	}
}

// P18.2: a Key leads to the tree that is the same, as a key of a map.
func TestKeyLeads(t *testing.T) {
	places := map[[2]uint64]int{}
	trees := []api.Tree{root(), root(text("a")), root(text("b")), root(el("p"), el("q")), root(el("q"), el("p")), page()}
	for i, x := range trees {
		places[hash.Key(x)] = i
	}
	for i, x := range trees {
		for _, y := range alike(x) {
			if got, ok := places[hash.Key(y)]; !ok || got != i {
				t.Errorf("tree %d leads to %d, %t", i, got, ok)
			}
		}
	}
}

// R3, R4: each answer is its asker's: what is written to one is in no later one, nor is what was asked ahead.
func TestAnswersAreNew(t *testing.T) {
	x := page()
	want := say(t, x)
	for range 3 {
		all := hash.All(x)
		all = all[:cap(all)]
		for i := range all {
			all[i] = 1
		}
		key := hash.Key(x)
		key[0], key[1] = 1, 1
		say(t, comb(60))
		if got := say(t, x); !reflect.DeepEqual(got, want) {
			t.Errorf("%x, want %x", got, want)
		}
	}
}
