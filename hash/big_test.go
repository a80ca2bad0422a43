package hash_test

import (
	"slices"
	"testing"

	"topiary/api"
	"topiary/hash"
	"topiary/tree"
)

// wide is a Root with n - 1 kids.
func wide(n int) api.Tree { return root(slices.Repeat([]api.Tree{text("t")}, n-1)...) }

// broad is an Element with as many attributes and as long values as may be.
func broad() api.Tree {
	x := el(string(slices.Repeat([]byte("n"), api.MaxName)))
	for i := range api.MaxAttrs {
		x = with(x, string(rune('a'+i)), string(slices.Repeat([]byte{byte(200 + i)}, api.MaxText)))
	}
	return x
}

// comb is a tree so many levels deep that has a Text on both sides of each Element.
func comb(levels int) api.Tree {
	x := text("last")
	for range levels - 2 {
		x = el("p", text("ahead"), x, text("behind"))
	}
	return root(x)
}

// P18.1: Of, All and Key of trees as deep, and with as many nodes, as may be.
func TestMost(t *testing.T) {
	deepest := root(chain(api.MaxDepth-2, text("t")))
	most := root(slices.Repeat([]api.Tree{broad()}, api.MaxNodes-1)...)
	for _, x := range []api.Tree{deepest, most, wide(api.MaxNodes), comb(api.MaxDepth)} {
		if !tree.Check(x) {
			t.Fatal("the test's own tree may not be")
		}
		wantAll(t, x)
	}
	asSubs(t, deepest)
	asSubs(t, wide(api.MaxNodes))
	asSubs(t, comb(api.MaxDepth))
}

// P18.1: Of, All and Key of trees as big as walk is asked of: 10,000 nodes, 1,000 deep.
func TestGreatest(t *testing.T) {
	const nodes, levels = 10000, 1000
	for _, x := range []api.Tree{
		wide(nodes),
		root(chain(levels-2, text("t"))),
		comb(levels),
		root(append(slices.Clone(wide(nodes-levels+1).Kids), chain(levels-2, text("last")))...),
		root(append([]api.Tree{chain(levels-2, text("first"))}, wide(nodes-levels+1).Kids...)...),
		root(slices.Repeat([]api.Tree{chain(98, text("t"))}, 101)...),
	} {
		wantAll(t, x)
	}
}

// P18.1: Key's second number: Size times 2^32, and Height.
func TestKey(t *testing.T) {
	for _, c := range []struct {
		tree         api.Tree
		size, height uint64
	}{
		{api.Tree{}, 1, 1},
		{root(), 1, 1},
		{text("a"), 1, 1},
		{root(text("a")), 2, 2},
		{root(text("a"), text("b")), 3, 2},
		{root(el("p", text("a"))), 3, 3},
		{root(el("p", el("q")), text("a"), text("b")), 5, 3},
		{page(), 14, 6},
		{wide(300), 300, 2},
		{wide(10000), 10000, 2},
		{chain(59, text("t")), 60, 60},
		{chain(999, text("t")), 1000, 1000},
		{comb(60), 176, 60},
	} {
		want := [2]uint64{hash.Of(c.tree), c.size*(1<<32) + c.height}
		if got := hash.Key(c.tree); got != want {
			t.Errorf("%d nodes, %d high: %x, want %x", c.size, c.height, got, want)
		}
	}
	if k := hash.Key(wide(300)); k[1] != 0x12c00000002 {
		t.Errorf("%x", k[1])
	}
}

// R1: far deeper than is asked, all calls end.
func TestFarTooDeep(t *testing.T) {
	const levels = 1 << 17
	x := chain(levels-1, text("t"))
	all := hash.All(x)
	if len(all) != levels || all[0] != hash.Of(x) || hash.Key(x) != [2]uint64{all[0], levels<<32 + levels} {
		t.Error(len(all), hash.Key(x))
	}
	want := hash.Of(text("t"))
	for id := levels - 1; id >= 0; id-- {
		if all[id] != want {
			t.Fatalf("%d: %x, want %x", id, all[id], want)
		}
		want = mixed(2, hash.Text("p"), 0, 0, 1, want)
	}
}
