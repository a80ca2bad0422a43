package zhang_test

import (
	"testing"

	"topiary/api"
)

// P20.2: the chapter's example.
func TestExample(t *testing.T) {
	wantApart(t, text("a"), text("b"), 1, pairs(0, 0))
}

// P20.2, P20.3: trees that are the same.
func TestSame(t *testing.T) {
	for _, x := range []api.Tree{
		{}, root(), text("a"), doctype(""), el("p", text("a")), root(text("a"), text("a"), text("a")), chain(7, text("a")), most(7),
		root(el("p", text("a"), el("q")), with(el("p", text("a")), "id", "x")), {Kind: -7, Kids: []api.Tree{root(), {Kind: 99, Text: "x"}}},
	} {
		wantApart(t, x, copied(x), 0, themselves(sizeOf(x)))
	}
}

// P20.2, P20.3: one node against one, of Cost 0, 1 and 3: this is one out and one in.
func TestOneNode(t *testing.T) {
	for _, x := range nodes() {
		for _, y := range nodes() {
			cost := secondCost(x, y)
			if cost < 3 {
				wantApart(t, x, y, cost, pairs(0, 0))
			} else {
				wantApart(t, x, y, 2, nil)
			}
		}
	}
}

// P20.2, P20.3: one node more, in each place; the second of each two is the bigger one.
func TestOneMore(t *testing.T) {
	a, b, c := el("a"), el("b"), el("c")
	x := el("x")
	wantMore := func(was, is api.Tree, l ...int) {
		t.Helper()
		wantApart(t, was, is, 1, pairs(l...))
		for i := 0; i < len(l); i += 2 {
			l[i], l[i+1] = l[i+1], l[i]
		}
		wantApart(t, is, was, 1, pairs(l...))
	}
	was := root(a, b, c)
	// at the front, between, at the end
	wantMore(was, root(x, a, b, c), 0, 0, 1, 2, 2, 3, 3, 4)
	wantMore(was, root(a, x, b, c), 0, 0, 1, 1, 2, 3, 3, 4)
	wantMore(was, root(a, b, x, c), 0, 0, 1, 1, 2, 2, 3, 4)
	wantMore(was, root(a, b, c, x), 0, 0, 1, 1, 2, 2, 3, 3)
	// as a leaf in one of them
	wantMore(was, root(el("a", x), b, c), 0, 0, 1, 1, 2, 3, 3, 4)
	wantMore(was, root(a, el("b", x), c), 0, 0, 1, 1, 2, 2, 3, 4)
	wantMore(was, root(a, b, el("c", x)), 0, 0, 1, 1, 2, 2, 3, 3)
	// around others
	wantMore(was, root(el("x", a), b, c), 0, 0, 1, 2, 2, 3, 3, 4)
	wantMore(was, root(el("x", a, b), c), 0, 0, 1, 2, 2, 3, 3, 4)
	wantMore(was, root(a, el("x", b), c), 0, 0, 1, 1, 2, 3, 3, 4)
	wantMore(was, root(a, el("x", b, c)), 0, 0, 1, 1, 2, 3, 3, 4)
	wantMore(was, root(a, b, el("x", c)), 0, 0, 1, 1, 2, 2, 3, 4)
	wantMore(was, root(el("x", a, b, c)), 0, 0, 1, 2, 2, 3, 3, 4)
	// at the Root's place
	wantMore(was, el("x", was), 0, 1, 1, 2, 2, 3, 3, 4)
	// the outermost two match, though what is in them would go on as well
	wantMore(was, root(was), 0, 0, 1, 2, 2, 3, 3, 4)
}

// P20.3: where one of two that are the same is gone, it is the first one: the last ones match ahead of all.
func TestOneOfTheSame(t *testing.T) {
	x := el("x")
	wantApart(t, root(x, x), root(x), 1, pairs(0, 0, 2, 1))
	wantApart(t, root(x), root(x, x), 1, pairs(0, 0, 1, 2))
	wantApart(t, root(x, x, x), root(x), 2, pairs(0, 0, 3, 1))
	wantApart(t, root(el("x", text("1")), el("x", text("1"))), root(el("x", text("1"))), 2, pairs(0, 0, 3, 1, 4, 2))
	// an element in its like: match leaves the outer ones together
	wantApart(t, el("x", x), x, 1, pairs(0, 0))
	wantApart(t, x, el("x", x), 1, pairs(0, 0))
	wantApart(t, chain(7, el("p")), el("p"), 7, pairs(0, 0))
	wantApart(t, root(el("x", x), x), root(x), 2, pairs(0, 0, 3, 1))
	wantApart(t, root(x, el("x", x)), root(x), 2, pairs(0, 0, 2, 1))
}

// P20.2, P20.3: kids in another order.
func TestOtherOrder(t *testing.T) {
	a, b, c := el("a"), el("b"), el("c")
	// match can't be of the two last; out and in are alike: the last one of a goes, and b's first one comes
	wantApart(t, root(a, b), root(b, a), 2, pairs(0, 0, 1, 2))
	wantApart(t, root(a, b, c), root(c, a, b), 2, pairs(0, 0, 1, 2, 2, 3))
	wantApart(t, root(a, b, c), root(b, c, a), 2, pairs(0, 0, 2, 1, 3, 2))
	wantApart(t, root(a, b, c), root(c, b, a), 4, pairs(0, 0, 1, 3))
	// texts may match one another
	wantApart(t, root(text("a"), text("b")), root(text("b"), text("a")), 2, pairs(0, 0, 1, 1, 2, 2))
	wantApart(t, root(text("a"), text("b"), text("c")), root(text("c"), text("a"), text("b")), 2, pairs(0, 0, 1, 2, 2, 3))
	wantApart(t, root(text("a"), text("b"), text("c")), root(text("c"), text("b"), text("a")), 2, pairs(0, 0, 1, 1, 2, 2, 3, 3))
}

// P20.2, P20.3: trees whose nodes are all unlike: all out, all in, and no pair.
func TestAllUnlike(t *testing.T) {
	a := el("a", el("b", text("1")), text("2"))
	b := root(el("c"), comment("1"), el("d", doctype("a")))
	wantApart(t, a, b, 9, nil)
	wantApart(t, b, a, 9, nil)
	wantApart(t, a, root(), 5, nil)
	wantApart(t, text("a"), comment("a"), 2, nil)
	wantApart(t, chain(7, el("p")), el("q", el("q", el("q", el("q", el("q", el("q", el("q", el("q")))))))), 16, nil)
}

// P20.2, P20.3: outermost nodes that are unlike, and much alike in them: one out, one in about it, and no pair of these two.
func TestUnlikeAround(t *testing.T) {
	in := []api.Tree{text("1"), el("b"), text("2")}
	wantApart(t, el("p", in...), el("q", in...), 2, pairs(1, 1, 2, 2, 3, 3))
	wantApart(t, root(el("p", in...)), root(el("q", in...)), 2, pairs(0, 0, 2, 2, 3, 3, 4, 4))
	wantApart(t, root(el("p", in...), in[0]), root(el("q", in...), in[0]), 2, pairs(0, 0, 2, 2, 3, 3, 4, 4, 5, 5))
	wantApart(t, root(el("p", in...)), el("q", in...), 3, pairs(2, 1, 3, 2, 4, 3))
	// out comes ahead of in: it is the innermost s that stays
	wantApart(t, el("p", el("q", el("s"))), el("s", el("q", el("p"))), 4, pairs(2, 0))
}

// P20.2, P20.3: attributes and texts that are unlike, each at 1; the nodes are pairs all the same.
func TestOtherParts(t *testing.T) {
	a := root(with(el("p", text("1"), text("2")), "id", "x"), comment("c"))
	wantApart(t, a, root(el("p", text("1"), text("2")), comment("c")), 1, themselves(5))
	wantApart(t, a, root(with(el("p", text("1"), text("2")), "id", "y"), comment("c")), 1, themselves(5))
	wantApart(t, a, root(with(el("p", text("1"), text("2")), "id", "x", "k", ""), comment("d")), 2, themselves(5))
	wantApart(t, a, root(with(el("p", text("3"), text("4")), "id", "y"), comment("d")), 4, themselves(5))
}

// P20.3: kids are one another's, whatever stands ahead of and behind those that they are in.
func TestAheadAndBehind(t *testing.T) {
	a, b, c := el("a"), el("b"), el("c")
	wantApart(t, root(el("p", a, b), c), root(c, el("p", a, b)), 2, pairs(0, 0, 1, 2, 2, 3, 3, 4))
	wantApart(t, root(el("p", a), el("p", b)), root(el("p", b), el("p", a)), 4, pairs(0, 0, 1, 1, 3, 3))
	wantApart(t, root(el("p", a), el("q", b)), root(el("q", b), el("p", a)), 4, pairs(0, 0, 1, 3, 2, 4))
	wantApart(t, root(a, el("p", b), c), root(el("p", a, b, c)), 2, pairs(0, 0, 1, 2, 3, 3, 4, 4))
	wantApart(t, root(el("p", a, b), el("p", c)), root(el("p", a), el("p", b, c)), 2, pairs(0, 0, 1, 1, 2, 2, 4, 3, 5, 5))
	wantApart(t, root(el("p", a, b, c)), root(a, b, c), 1, pairs(0, 0, 2, 1, 3, 2, 4, 3))
}

// P20.3: where ways give the same, the first of match, out, in.
func TestFirstOfThree(t *testing.T) {
	// match and out and in: texts at 1 each, or one out and one in
	wantApart(t, el("p", text("a"), text("b")), el("p", text("b"), text("c")), 2, themselves(3))
	// out and in: the last node of a goes ahead of b's
	wantApart(t, el("p", el("a"), el("b")), el("p", el("b"), el("a")), 2, pairs(0, 0, 1, 2))
	wantApart(t, el("a", el("b")), el("b", el("a")), 2, pairs(1, 0))
	// match and in: the outermost ones at 1, or what is in them at 1
	k := with(el("p"), "k", "")
	deep := k
	deep.Kids = []api.Tree{k}
	wantApart(t, el("p"), deep, 2, pairs(0, 0))
	// match and out
	wantApart(t, deep, el("p"), 2, pairs(0, 0))
	// what is in them at 0 is less
	deep.Kids = []api.Tree{el("p")}
	wantApart(t, el("p"), deep, 1, pairs(0, 1))
	wantApart(t, deep, el("p"), 1, pairs(1, 0))
}
