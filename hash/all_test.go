package hash_test

import (
	"slices"
	"testing"

	"topiary/api"
	"topiary/bits"
	"topiary/hash"
	"topiary/tree"
	"topiary/walk"
)

// asSubs holds All against Of each node with all in it, as walk has it, and Key against that node's Size and Height.
func asSubs(t *testing.T, x api.Tree) {
	t.Helper()
	all, l := hash.All(x), walk.Flat(x)
	if len(all) != tree.Size(x) || len(all) != len(l) {
		t.Fatalf("All: %d numbers of %d nodes", len(all), len(l))
	}
	for id, got := range all {
		sub, ok := walk.Sub(x, id)
		if !ok || got != hash.Of(sub) {
			t.Errorf("All, %d: %x, want %x", id, got, hash.Of(sub))
		}
		if key := hash.Key(sub); key != [2]uint64{got, bits.Join(uint32(l[id].Size), uint32(l[id].Height))} {
			t.Errorf("Key of %d: %x, want %x, %d nodes, %d high", id, key, got, l[id].Size, l[id].Height)
		}
	}
}

// P18.1: All of single nodes: the one number that Of says.
func TestAllSingle(t *testing.T) {
	for _, kind := range kinds {
		for _, x := range []api.Tree{{Kind: kind}, {Kind: kind, Name: "n", Text: "t", Attrs: []api.Attr{{Name: "a", Value: "b"}}}} {
			if got := hash.All(x); !slices.Equal(got, []uint64{hash.Of(x)}) {
				t.Errorf("%v: %x", x, got)
			}
		}
	}
}

// P18.1: All of a page, as numbers.
func TestAllStays(t *testing.T) {
	want := []uint64{
		0xb515f8761778acdc, 0x7040f66e7af4cb60, 0x7917e73df8c6aa3e, 0xcbfb5cd858f9011d, 0xdca608fd231a84fb, 0x2462e3c216e806c9, 0xd60703fb6bee2359,
		0x3c6a9b5e01ba26c6, 0x95440fadba679bb3, 0x973378410fce4cc3, 0x89647f17379ac637, 0x4de889cfc093d738, 0x50ee531bb27ad55f, 0x987581ff3b48b7b4,
	}
	if got := hash.All(page()); !slices.Equal(got, want) {
		t.Errorf("%x, want %x", got, want)
	}
}

// P18.1: All, by the numbers, of many kids, of deep ones, of such as are unlike in depth.
func TestAllNodes(t *testing.T) {
	many := root()
	for i := range 299 {
		many.Kids = append(many.Kids, text(string(rune('a'+i))))
	}
	for _, x := range []api.Tree{
		page(), many, chain(59, text("t")),
		root(el("a"), el("b", el("c", el("d"))), el("e", el("f"))),
		root(chain(20, text("1")), chain(7, text("2")), text("3"), chain(30, comment("4"))),
		el("p", root(text("odd")), api.Tree{Kind: api.Text, Text: "with a kid", Kids: []api.Tree{doctype("x")}}),
	} {
		asSubs(t, x)
		wantAll(t, x)
	}
}

// P18.1: nodes that are the same have one number, wherever they stand; all that they stand in differs.
func TestAllSame(t *testing.T) {
	same := with(el("p", text("a"), comment("b")), "c", "d")
	all := hash.All(root(same, el("q", same, same), el("q", el("q", same))))
	want := all[1:4]
	for _, id := range []int{5, 8, 13} {
		if got := all[id : id+3]; !slices.Equal(got, want) {
			t.Errorf("%d: %x, want %x", id, got, want)
		}
	}
	others := []uint64{all[0], all[1], all[2], all[3], all[4], all[11], all[12]}
	slices.Sort(others)
	if len(slices.Compact(others)) != 7 {
		t.Errorf("nodes that are unlike have one number: %x", all)
	}
}

// P18.1: Of, All and Key of drawn trees, and of all that is in them.
func TestAllDrawn(t *testing.T) {
	seed := uint64(181)
	nodes := 0
	for i := range 1500 {
		x := drawnTree(&seed, 1+i%6, i%2 == 1)
		wantAll(t, x)
		asSubs(t, x)
		nodes += tree.Size(x)
	}
	if nodes < 15000 {
		t.Errorf("%d nodes: the trees don't tell enough", nodes)
	}
}
