package similar_test

import (
	"math"
	"testing"

	"topiary/api"
	"topiary/similar"
)

// leasts are numbers that may be asked as the least Height.
var leasts = []int{math.MinInt, -1, 0, 1, 2, 3, 4, 5, 60, math.MaxInt}

// P19.2: two trees that are the same: each number with itself, whatever is asked as the least.
func TestAlikeSame(t *testing.T) {
	for _, x := range []api.Tree{
		root(), root(text("a")), root(text("a"), text("a"), text("a")), page(), root(el("p", el("p")), el("p", el("p"))), root(chain(58, text("t"))),
	} {
		for _, least := range leasts {
			wantAlike(t, x, copied(x), least, themselves(len(nodesOf(x))))
		}
	}
}

// P19.2: unlike in one text, one attribute, one kid: all that is not about it is the same.
func TestAlikeButOne(t *testing.T) {
	p := func(in string) api.Tree { return with(el("p", text(in)), "id", "x") }
	a := root(el("a", p("1"), p("2")), el("b", text("3"))) // 1 a, 2 p, 3, 4 p, 5, 6 b, 7
	all := pairs(2, 2, 3, 3, 4, 4, 5, 5, 6, 6, 7, 7)
	ahead, behind := all[:2], all[2:]
	wantAlike(t, a, root(el("a", p("x"), p("2")), el("b", text("3"))), 1, behind)
	wantAlike(t, a, root(el("c", p("1"), p("2")), el("b", text("3"))), 1, all)
	wantAlike(t, a, root(with(el("a", p("1"), p("2")), "k", ""), el("b", text("3"))), 1, all)
	wantAlike(t, a, root(el("a", el("p", text("1")), p("2")), el("b", text("3"))), 1, all[1:])
	wantAlike(t, a, root(el("a", with(el("p", text("1")), "id", "y"), p("2")), el("b", text("3"))), 1, all[1:])
	wantAlike(t, a, root(el("a", with(el("p", text("1")), "ie", "x"), p("2")), el("b", text("3"))), 1, all[1:])
	wantAlike(t, a, root(el("a", p("1")), el("b", text("3"))), 1, append(ahead[:2:2], pairs(6, 4, 7, 5)...))
	wantAlike(t, a, root(el("a", p("1"), p("2"), el("p")), el("b", text("3"))), 1, append(all[:4:4], pairs(6, 7, 7, 8)...))
	wantAlike(t, a, root(el("a", p("2"), p("1")), el("b", text("3"))), 1, append(pairs(2, 4, 3, 5, 4, 2, 5, 3), all[4:]...))
	wantAlike(t, a, root(), 1, nil)
	wantAlike(t, root(), a, 1, nil)
}

// P19.2: nodes are unlike by their Kind alone; texts in other parts.
func TestAlikeKinds(t *testing.T) {
	a := root(text("p"), comment("p"), doctype("p"), el("p"))
	wantAlike(t, a, root(el("p"), doctype("p"), comment("p"), text("p")), 1, pairs(1, 4, 2, 3, 3, 2, 4, 1))
	wantAlike(t, a, root(comment("q"), comment("p")), 1, pairs(2, 2))
	wantAlike(t, root(text("p")), root(comment("p")), 1, nil)
	wantAlike(t, root(doctype("p")), root(el("p")), 1, nil)
	wantAlike(t, root(text("a"), text("b")), root(text("ab")), 1, nil)
}

// P19.2: least: below 1, 1, between, the greatest Height, above it.
func TestAlikeLeast(t *testing.T) {
	x := el("x", el("y", text("1")))                                   // 3 high
	a := root(x, el("z", text("2")), text("3"), el("w", x, text("4"))) // 1 x, 2, 3; 4 z, 5; 6; 7 w, 8 x, 9, 10; 11
	b := root(text("3"), x, el("z", text("2")), text("4"))             // 1; 2 x, 3, 4; 5 z, 6; 7
	three := pairs(1, 2, 2, 3, 3, 4)
	two := append(three[:3:3], pairs(4, 5, 5, 6)...)
	one := append(two[:5:5], pairs(6, 1, 11, 7)...)
	for _, least := range []int{math.MinInt, -7, 0, 1} {
		wantAlike(t, a, b, least, one)
	}
	wantAlike(t, a, b, 2, two)
	wantAlike(t, a, b, 3, three)
	for _, least := range []int{4, 5, 6, 60, math.MaxInt} {
		wantAlike(t, a, b, least, nil)
	}
}

// P19.2: what is there twice and more, in one or in both: the first by its number that is free.
func TestAlikeTwice(t *testing.T) {
	x := el("x", text("1"))
	wantAlike(t, root(x), root(x, x), 1, pairs(1, 1, 2, 2))
	wantAlike(t, root(x, x), root(x), 1, pairs(1, 1, 2, 2))
	wantAlike(t, root(x, x, x), root(text("0"), x, x), 1, pairs(1, 2, 2, 3, 3, 4, 4, 5))
	wantAlike(t, root(text("0"), x, x), root(x, x, x), 1, pairs(2, 1, 3, 2, 4, 3, 5, 4))
	wantAlike(t, root(x, text("1"), text("1")), root(text("1"), x, x), 1, pairs(1, 2, 2, 3, 3, 1, 4, 5))
	wantAlike(t, root(text("a"), text("a"), text("a")), root(text("a"), text("a")), 1, pairs(1, 1, 2, 2))
	// the first by its number, not the one that lies least deep
	wantAlike(t, root(x), root(el("p", el("p", x)), x), 1, pairs(1, 3, 2, 4))
	wantAlike(t, root(el("p", el("q", x)), x), root(x, el("q", text("0"), x)), 1, pairs(3, 1, 4, 2, 5, 5, 6, 6))
}

// P19.2: what lies in a greater one that is a pair already is not free.
func TestAlikeIn(t *testing.T) {
	x := el("x", text("1"))
	p := el("p", x, el("q"))
	// a: 1 x, 2; 3 p, 4 x, 5, 6 q. b: 1 p, 2 x, 3, 4 q; 5 x, 6; 7 y
	wantAlike(t, root(x, p), root(p, x, el("y")), 1, pairs(1, 5, 2, 6, 3, 1, 4, 2, 5, 3, 6, 4))
	// the only other x is in a pair: b's 2
	wantAlike(t, root(x, p), root(p, el("y")), 1, pairs(3, 1, 4, 2, 5, 3, 6, 4))
	wantAlike(t, root(p, el("y")), root(x, p), 1, pairs(1, 3, 2, 4, 3, 5, 4, 6))
	// p is there twice, the second one is free in b: its x, not the first one's, is a's
	wantAlike(t, root(p, x, text("1")), root(p, p), 1, pairs(1, 1, 2, 2, 3, 3, 4, 4, 5, 6, 6, 7))
	// it's free in a, and so its parts are
	wantAlike(t, root(p, p, el("y")), root(p, x, el("q")), 1, pairs(1, 1, 2, 2, 3, 3, 4, 4, 6, 5, 7, 6, 8, 7))
}

// P19.2: Heights that are in one tree alone.
func TestAlikeHeights(t *testing.T) {
	deep, flat := root(chain(7, text("t"))), root(el("p", text("t")), text("t"))
	wantAlike(t, deep, flat, 1, pairs(7, 1, 8, 2))
	wantAlike(t, flat, deep, 1, pairs(1, 7, 2, 8))
	wantAlike(t, deep, flat, 3, nil)
	// Heights between that no pair is of
	wantAlike(t, root(chain(4, text("t")), text("u")), root(el("q", chain(3, el("q", text("t")))), text("u")), 1, pairs(5, 6, 6, 7))
}

// P19.2: the Root is in no pair, but where the trees are the same; what is like it is an element.
func TestAlikeRoot(t *testing.T) {
	wantAlike(t, root(), root(), 1, pairs(0, 0))
	wantAlike(t, root(text("a")), root(el("p", text("a"))), 1, pairs(1, 2))
	wantAlike(t, root(el("p", el("p"))), root(el("p"), el("p")), 1, pairs(2, 1))
	// As if the Root's kid were a Root's: that is none that may be.
	odd := root(root(text("a")))
	for _, x := range []api.Tree{root(text("a")), odd, root(odd)} {
		wantAlike(t, odd, x, 1, nil)
		wantAlike(t, x, odd, 1, nil)
	}
}

// P19.2: trees for which Check says no, either or both: nil, though they are the same.
func TestAlikeMayNotBe(t *testing.T) {
	well := root(el("p", text("a")))
	for _, x := range []api.Tree{
		{}, el("p", text("a")), text("a"), comment("a"), doctype("a"), {Kind: -1}, {Kind: 6, Kids: well.Kids},
		root(text("")), root(el("")), root(el("P")), root(el("p", root())), root(el("p", doctype("a"))), root(el("p", text("a")), api.Tree{}),
		with(root(el("p", text("a"))), "a", "b"), {Kind: api.Root, Name: "p", Kids: well.Kids}, {Kind: api.Root, Text: "p", Kids: well.Kids},
		root(with(el("p"), "b", "", "a", "")), root(with(el("p"), "a", "", "a", "")), root(chain(api.MaxDepth-1, text("a"))), most(api.MaxNodes),
	} {
		for _, least := range []int{-1, 1, 2, 9} {
			wantAlike(t, well, x, least, nil)
			wantAlike(t, x, well, least, nil)
			wantAlike(t, x, copied(x), least, nil)
		}
	}
}

// P19.2: unlike nodes that have one number of hash are no pair; what is the same is found behind them.
func TestAlikeOneNumber(t *testing.T) {
	b, az := text("b"), text("a\x00")
	wantAlike(t, root(b), root(az), 1, nil)
	wantAlike(t, root(b, az), root(az, b), 1, pairs(1, 2, 2, 1))
	wantAlike(t, root(b, az, b), root(az, az, b, b), 1, pairs(1, 3, 2, 1, 3, 4))
	wantAlike(t, root(el("p", b)), root(el("p", az)), 1, nil)
	wantAlike(t, root(el("p", el("q"), b)), root(el("p", el("q"), az)), 1, pairs(2, 2))
	wantAlike(t, root(el("p", b, az)), root(el("p", az, b), el("p", b, az)), 1, pairs(1, 4, 2, 5, 3, 6))
	wantAlike(t, root(with(el("p"), "a", "b")), root(with(el("p"), "a", "a\x00")), 1, nil)
	wantAlike(t, root(comment("b")), root(comment("a\x00"), comment("b")), 1, pairs(1, 2))
	wantAlike(t, root(doctype("b")), root(doctype("a\x00")), 1, nil)
}

// P19.2: the chapter's example, and two pages.
func TestAlikePage(t *testing.T) {
	wantAlike(t, page(), page(), 1, themselves(14))
	other := page()
	other.Kids[1].Kids[1].Kids[1].Kids[1].Kids[0].Text = "June" // 12, in the b
	want := pairs(1, 1, 3, 3, 4, 4, 5, 5, 7, 7, 8, 8, 10, 10, 13, 13)
	wantAlike(t, page(), other, 1, want)
	wantAlike(t, page(), other, 2, want[1:6])
	wantAlike(t, page(), other, 3, want[1:4])
	wantAlike(t, page(), other, 4, nil)
}

// P19.2: a and b are not one another's: by the numbers of a the first one of b is taken, and so told.
func TestAlikeOrder(t *testing.T) {
	x, y, z := el("x", text("1")), text("2"), el("z")
	got := similar.Alike(root(x, y, z), root(z, y, x, x), 1)
	for i, p := range pairs(1, 3, 2, 4, 3, 2, 4, 1) {
		if i >= len(got) || got[i] != p {
			t.Fatal(got)
		}
	}
}
