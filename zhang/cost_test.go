package zhang_test

import (
	"strings"
	"testing"

	"topiary/api"
	"topiary/zhang"
)

// wantCost holds Cost against what is wanted, either way round.
func wantCost(t *testing.T, a, b api.Tree, want int) {
	t.Helper()
	for _, x := range [][2]api.Tree{{a, b}, {b, a}} {
		if got := zhang.Cost(x[0], x[1]); got != want {
			t.Errorf("%v and %v: %d, want %d", x[0], x[1], got, want)
		}
	}
}

// nodes are nodes without kids, all unlike.
func nodes() []api.Tree {
	return []api.Tree{
		{}, root(), text(""), text("a"), text("b"), text("p"), comment(""), comment("a"), doctype(""), doctype("p"), doctype("a"),
		el(""), el("a"), el("p"), with(el("p"), "", ""), with(el("p"), "a", ""), with(el("p"), "a", "b"), with(el("p"), "b", "a"),
		with(el("p"), "a", "b", "c", "d"), with(el("p"), "c", "d", "a", "b"), {Kind: -1}, {Kind: 9, Name: "p"},
		{Kind: api.Element, Name: "p", Text: "a"}, with(text("a"), "a", "b"), {Kind: api.Text, Name: "a", Text: "a"},
	}
}

// P20.1: each node and itself: 0; its kids don't count.
func TestCostSame(t *testing.T) {
	for _, x := range nodes() {
		wantCost(t, x, copied(x), 0)
		y := copied(x)
		y.Kids = []api.Tree{text("a"), el("p", text("b"))}
		wantCost(t, x, y, 0)
		x.Kids = []api.Tree{el("q")}
		wantCost(t, x, y, 0)
	}
}

// P20.1: each part unlike by itself.
func TestCostOnePart(t *testing.T) {
	x := with(api.Tree{Kind: api.Element, Name: "p", Text: "a"}, "a", "1", "b", "2")
	y := x
	y.Kind = api.Text
	wantCost(t, x, y, 3)
	y = x
	y.Name = "q"
	wantCost(t, x, y, 3)
	y.Name = ""
	wantCost(t, x, y, 3)
	y = x
	y.Text = "b"
	wantCost(t, x, y, 1)
	y.Text = ""
	wantCost(t, x, y, 1)
	for _, l := range [][]string{
		nil, {"a", "1"}, {"b", "2"}, {"b", "2", "a", "1"}, {"a", "2", "b", "2"}, {"a", "1", "b", ""}, {"a", "1", "c", "2"},
		{"a", "1", "b", "2", "c", "3"}, {"a", "1", "a", "1", "b", "2"}, {"a", "1", "b", "2", "b", "2"}, {"", "", "a", "1", "b", "2"}, {"1", "a", "2", "b"},
	} {
		y = x
		y.Attrs = nil
		wantCost(t, x, with(y, l...), 1)
	}
}

// P20.1: two parts and more unlike: 1 just where neither Kind nor Name is among them.
func TestCostMoreParts(t *testing.T) {
	kinds := []int{api.Element, api.Comment}
	words := []string{"p", "q"}
	attrs := [][]api.Attr{{{Name: "a"}}, {{Name: "b"}}}
	for unlike := range 16 {
		part := func(n int) int { return unlike >> n & 1 }
		x := api.Tree{Kind: kinds[0], Name: words[0], Text: words[0], Attrs: attrs[0]}
		y := api.Tree{Kind: kinds[part(0)], Name: words[part(1)], Text: words[part(2)], Attrs: attrs[part(3)]}
		want := 1
		if unlike == 0 {
			want = 0
		} else if unlike&3 != 0 {
			want = 3
		}
		wantCost(t, x, y, want)
	}
}

// P20.1: what is a Name in one is no Text in the other one.
func TestCostOtherParts(t *testing.T) {
	wantCost(t, text("p"), el("p"), 3)
	wantCost(t, text("p"), comment("p"), 3)
	wantCost(t, el("p"), doctype("p"), 3)
	wantCost(t, root(), el(""), 3)
	wantCost(t, root(), api.Tree{}, 3)
	wantCost(t, api.Tree{Kind: api.Text, Name: "a", Text: "b"}, api.Tree{Kind: api.Text, Name: "ab"}, 3)
	wantCost(t, api.Tree{Kind: api.Text, Text: "ab"}, api.Tree{Kind: api.Text, Name: "a", Text: "b"}, 3)
	wantCost(t, el("p"), el("P"), 3)
	wantCost(t, el("p"), el("p "), 3)
}

// P20.1: all of these nodes against one another, by a second reading.
func TestCostAll(t *testing.T) {
	for _, x := range nodes() {
		for _, y := range nodes() {
			wantCost(t, x, y, secondCost(x, y))
		}
	}
}

// P20.1, R3: lists that are nil and empty are one.
func TestCostEmpty(t *testing.T) {
	for _, x := range nodes() {
		wantCost(t, x, empty(x), 0)
		wantCost(t, roomy(x), empty(x), 0)
	}
}

// P20.1, R1: nodes that are far bigger than may be, and with far more in them.
func TestCostFarTooBig(t *testing.T) {
	long := strings.Repeat("n", 1<<20)
	wantCost(t, el(long), el(long), 0)
	wantCost(t, el(long), el(long+"n"), 3)
	wantCost(t, text(long), text(long[1:]), 1)
	var l []string
	for range 1 << 14 {
		l = append(l, "a", "b")
	}
	wantCost(t, with(el("p"), l...), with(el("p"), l...), 0)
	wantCost(t, with(el("p"), l...), with(el("p"), l[2:]...), 1)
	wantCost(t, chain(1<<17, text("a")), chain(1<<17, text("b")), 0)
	wantCost(t, most(1<<17), root(), 0)
	wantCost(t, doubled(200), doubled(201), 0)
}
