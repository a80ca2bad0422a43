package walk_test

import (
	"reflect"
	"slices"
	"testing"

	"topiary/api"
	"topiary/tree"
	"topiary/walk"
)

// roomy is a tree like t whose lists have spare room, with something in it.
func roomy(t api.Tree) api.Tree {
	attrs := append(slices.Clone(t.Attrs), api.Attr{Name: "spare", Value: "attribute"}, api.Attr{Name: "a"})
	var kids []api.Tree
	for _, k := range t.Kids {
		kids = append(kids, roomy(k))
	}
	kids = append(kids, el("spare"), text("spare"))
	t.Attrs, t.Kids = attrs[:len(t.Attrs)], kids[:len(t.Kids)]
	return t
}

// whole is a copy of a tree with all that is in its lists' room.
func whole(t api.Tree) api.Tree {
	t.Attrs = slices.Clone(t.Attrs[:cap(t.Attrs)])
	kids := []api.Tree{}
	for _, k := range t.Kids[:cap(t.Kids)] {
		kids = append(kids, whole(k))
	}
	t.Kids = kids
	return t
}

// fill writes over all of a list, its room too.
func fill[T any](l []T, x T) {
	for i := range l[:cap(l)] {
		l[:cap(l)][i] = x
	}
}

// spoil writes over all that is in a tree's lists, their room too.
func spoil(t api.Tree) {
	for _, k := range t.Kids {
		spoil(k)
	}
	fill(t.Kids, text("spoilt"))
	fill(t.Attrs, api.Attr{Name: "spoilt", Value: "spoilt"})
}

// spoilSpare writes over the spare room of a tree's lists, and nothing else.
func spoilSpare(t api.Tree) {
	fill(t.Kids[len(t.Kids):], text("spoilt"))
	fill(t.Attrs[len(t.Attrs):], api.Attr{Name: "spoilt", Value: "spoilt"})
	for _, k := range t.Kids {
		spoilSpare(k)
	}
}

// subs are Sub of all numbers of page.
func subs(t *testing.T, x api.Tree) []api.Tree {
	t.Helper()
	var l []api.Tree
	for id := range tree.Size(x) {
		s, ok := walk.Sub(x, id)
		if !ok {
			t.Fatal("no Sub of", id)
		}
		l = append(l, s)
	}
	return l
}

// R3: what is handed in is not changed, its lists' spare room neither, and whatever is written to what was handed out.
func TestHandedInStays(t *testing.T) {
	x := roomy(page())
	was := whole(x)
	l := walk.Flat(x)
	for _, s := range subs(t, x) {
		spoil(s)
	}
	for _, i := range l {
		spoil(i.Node)
	}
	fill(l, walk.Item{})
	fill(walk.Post(x), 99)
	for id := range pageWithin {
		fill(walk.Path(x, id), 99)
	}
	walk.Text(x)
	if !reflect.DeepEqual(whole(x), was) {
		t.Error("the tree was changed")
	}
	flat := walk.Flat(x)
	items := slices.Clone(flat[:cap(flat)])
	for id := range pageWithin {
		for of := range pageWithin {
			walk.Within(flat, id, of)
		}
	}
	if !reflect.DeepEqual(flat[:cap(flat)], items) {
		t.Error("Within's list was changed")
	}
}

// R3: what is handed out stays, whatever is written to what was handed in.
func TestHandedOutStays(t *testing.T) {
	k := knownPage()
	x := roomy(page())
	l, trees := walk.Flat(x), subs(t, x)
	spoil(x)
	for id := range k.items {
		if !sameItem(l[id], k.items[id]) {
			t.Errorf("Flat, %d: %+v", id, l[id])
		}
		if !tree.Same(trees[id], k.subs[id]) {
			t.Errorf("Sub of %d: %v", id, trees[id])
		}
	}
}

// R3: each answer is its asker's: no two have anything in common.
func TestHandedOutIsNew(t *testing.T) {
	k := knownPage()
	x := page()
	l := walk.Flat(x)
	for _, i := range l {
		spoil(i.Node)
	}
	fill(l, walk.Item{})
	for _, s := range subs(t, x) {
		spoil(s)
	}
	fill(walk.Post(x), 99)
	for id := range k.items {
		fill(walk.Path(x, id), 99)
		sayNode(t, x, id, k.subs[id], k.paths[id])
	}
	sayItems(t, x, k.items)
	if got := walk.Post(x); !slices.Equal(got, k.post) {
		t.Error("Post:", got)
	}
}

// R3: no two lists of one answer share memory, be they one list in what was handed in.
func TestListsOfOneAnswer(t *testing.T) {
	attrs := []api.Attr{{Name: "a", Value: "1"}, {Name: "b", Value: "2"}, {Name: "c", Value: "3"}}
	kids := []api.Tree{text("x"), {Kind: api.Element, Name: "in", Attrs: attrs}, comment("y")}
	x := root(
		api.Tree{Kind: api.Element, Name: "1", Attrs: attrs[:2], Kids: kids[:2]},
		api.Tree{Kind: api.Element, Name: "2", Attrs: attrs, Kids: kids},
		api.Tree{Kind: api.Element, Name: "3", Attrs: attrs[:0], Kids: kids[1:]},
		api.Tree{Kind: api.Element, Name: "4", Attrs: attrs[2:], Kids: kids[:0]},
	)
	want := whole(x)
	s, _ := walk.Sub(x, 0)
	spoilSpare(s)
	if !tree.Same(s, x) {
		t.Error("lists share their spare room:", s)
	}
	spoil(s.Kids[1])
	for i, k := range s.Kids {
		if i != 1 && !tree.Same(k, x.Kids[i]) {
			t.Errorf("kid %d shares a list with another one: %v", i, k)
		}
	}
	l := walk.Flat(x)
	was := walk.Flat(x)
	for id, i := range l {
		spoilSpare(i.Node)
		fill(i.Node.Attrs, api.Attr{})
		for other := id + 1; other < len(l); other++ {
			if !sameItem(l[other], was[other]) {
				t.Errorf("%d and %d share a list", id, other)
			}
		}
	}
	if !reflect.DeepEqual(whole(x), want) {
		t.Error("the tree was changed")
	}
}

// R3: nil and an empty list are one.
func TestEmptyLists(t *testing.T) {
	x := api.Tree{Kind: api.Root, Attrs: []api.Attr{}, Kids: []api.Tree{{Kind: api.Element, Name: "p", Attrs: []api.Attr{}, Kids: []api.Tree{}}, {Kind: api.Text, Text: "t", Kids: []api.Tree{}}}}
	sayItems(t, x, []walk.Item{item(-1, 3, 0, 2, 0, root()), item(0, 1, 1, 1, 0, el("p")), item(0, 1, 1, 1, 1, text("t"))})
	asPaths(t, x)
}
