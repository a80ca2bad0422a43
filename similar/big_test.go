package similar_test

import (
	"strings"
	"testing"

	"topiary/api"
	"topiary/similar"
	"topiary/tree"
)

// most is a Root with so many kids.
func most(kids int) api.Tree {
	x := root()
	for range kids {
		x.Kids = append(x.Kids, text("t"))
	}
	return x
}

// broad is an Element with as many attributes and as long values as may be.
func broad() api.Tree {
	x := el(strings.Repeat("n", api.MaxName))
	for i := range api.MaxAttrs {
		x = with(x, string(rune('a'+i)), strings.Repeat("v", api.MaxText))
	}
	return x
}

// P19.2: trees as deep as they may be.
func TestAlikeDeepest(t *testing.T) {
	const levels = api.MaxDepth
	a := root(chain(levels-2, text("t")))
	b := root(chain(levels-2, text("t")), text("u"))
	for _, x := range []api.Tree{a, b} {
		if !tree.Check(x) || tree.Depth(x) != levels {
			t.Fatal("the test's own tree may not be")
		}
	}
	wantAlike(t, a, copied(a), levels+9, themselves(levels))
	wantAlike(t, a, b, 1, themselves(levels)[1:])
	wantAlike(t, b, a, levels-1, themselves(levels)[1:])
	wantAlike(t, a, b, levels, nil)
	// unlike at the deepest place: no two elements are the same
	wantAlike(t, a, root(chain(levels-2, text("u"))), 1, nil)
	// a level less: of each the one that is as high
	less := root(chain(levels-3, text("t")), text("t"))
	var want []api.Pair
	for id := 2; id < levels; id++ {
		want = append(want, api.Pair{A: id, B: id - 1})
	}
	wantAlike(t, a, less, 1, want)
	wantAlike(t, a, less, levels-2, want)
	wantAlike(t, a, less, levels-1, nil)
}

// P19.2: trees with as many nodes as they may have.
func TestAlikeMost(t *testing.T) {
	a := most(api.MaxNodes - 1)
	wantAlike(t, a, copied(a), 2, themselves(api.MaxNodes))
	wantAlike(t, a, most(api.MaxNodes-2), 1, themselves(api.MaxNodes - 1)[1:])
	wantAlike(t, most(api.MaxNodes-2), a, 1, themselves(api.MaxNodes - 1)[1:])
	other := copied(a)
	other.Kids[0] = comment("t")
	wantAlike(t, a, other, 2, nil)
	var want []api.Pair
	for id := 1; id < api.MaxNodes-1; id++ {
		want = append(want, api.Pair{A: id, B: id + 1})
	}
	wantAlike(t, a, other, 1, want)
	// all have one number of hash, none is the same
	x, y := root(), root()
	for range api.MaxNodes - 1 {
		x.Kids, y.Kids = append(x.Kids, text("b")), append(y.Kids, text("a\x00"))
	}
	wantAlike(t, x, y, 1, nil)
	x.Kids[0], y.Kids[api.MaxNodes-2] = text("a\x00"), text("b")
	wantAlike(t, x, y, 1, pairs(1, 1, 2, api.MaxNodes-1))
}

// P19.2: as many elements as may be, each as big as it may be.
func TestAlikeBroadest(t *testing.T) {
	a := root()
	for range api.MaxNodes - 1 {
		a.Kids = append(a.Kids, broad())
	}
	b := copied(a)
	last := &b.Kids[7].Attrs[api.MaxAttrs-1].Value
	*last = (*last)[1:] + "w"
	for _, x := range []api.Tree{a, b} {
		if !tree.Check(x) {
			t.Fatal("the test's own tree may not be")
		}
	}
	got := similar.Alike(a, b, 1)
	if len(got) != api.MaxNodes-2 {
		t.Fatal(len(got))
	}
	for i, p := range got {
		want := api.Pair{A: i + 1, B: i + 1}
		if i >= 7 {
			want.B++
		}
		if p != want {
			t.Fatal(p, want)
		}
	}
}

// R1: far deeper and far bigger than may be: nil.
func TestAlikeFarTooBig(t *testing.T) {
	deep, wide := root(chain(1<<17, text("t"))), most(1<<17)
	for _, x := range []api.Tree{deep, wide} {
		for _, y := range []api.Tree{deep, wide, root()} {
			if got := similar.Alike(x, y, 1); got != nil {
				t.Error(len(got))
			}
			if got := similar.Alike(y, x, 1); got != nil {
				t.Error(len(got))
			}
		}
	}
}
