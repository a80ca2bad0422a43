package tree_test

import (
	"cmp"
	"math"
	"slices"
	"testing"

	"topiary/api"
	"topiary/tree"
)

// sign is -1, 0, 1.
func sign(less, more bool) int {
	switch {
	case less:
		return -1
	case more:
		return 1
	}
	return 0
}

// wantStrings tells which text comes first, byte by byte.
func wantStrings(a, b string) int {
	for i := 0; i < len(a) && i < len(b); i++ {
		if a[i] != b[i] {
			return sign(a[i] < b[i], a[i] > b[i])
		}
	}
	return sign(len(a) < len(b), len(a) > len(b))
}

// wantCompare works Compare's answer out as the chapter's words go, by calls of itself.
func wantCompare(a, b api.Tree) int {
	if a.Kind != b.Kind {
		return sign(a.Kind < b.Kind, a.Kind > b.Kind)
	}
	if c := wantStrings(a.Name, b.Name); c != 0 {
		return c
	}
	if c := wantStrings(a.Text, b.Text); c != 0 {
		return c
	}
	for i := 0; i < len(a.Attrs) && i < len(b.Attrs); i++ {
		if c := wantStrings(a.Attrs[i].Name, b.Attrs[i].Name); c != 0 {
			return c
		}
		if c := wantStrings(a.Attrs[i].Value, b.Attrs[i].Value); c != 0 {
			return c
		}
	}
	if len(a.Attrs) != len(b.Attrs) {
		return sign(len(a.Attrs) < len(b.Attrs), true)
	}
	for i := 0; i < len(a.Kids) && i < len(b.Kids); i++ {
		if c := wantCompare(a.Kids[i], b.Kids[i]); c != 0 {
			return c
		}
	}
	return sign(len(a.Kids) < len(b.Kids), len(a.Kids) > len(b.Kids))
}

// wantSame works Same's answer out, part by part.
func wantSame(a, b api.Tree) bool {
	return a.Kind == b.Kind && a.Name == b.Name && a.Text == b.Text && slices.Equal(a.Attrs, b.Attrs) && slices.EqualFunc(a.Kids, b.Kids, wantSame)
}

// rising are lists of trees, each tree above the one ahead of it.
var rising = map[string][]api.Tree{
	"kinds":                 {{Kind: math.MinInt}, {Kind: -1 << 40}, {Kind: -2}, {Kind: -1}, {}, {Kind: 1}, {Kind: 2}, {Kind: 3}, {Kind: 4}, {Kind: 5}, {Kind: 6}, {Kind: 1 << 40}, {Kind: math.MaxInt}},
	"names":                 {el(""), el("\x00"), el("A"), el("B"), el("a"), el("a\x00"), el("a "), el("aB"), el("aa"), el("ab"), el("b"), el("ba"), el("\x7f"), el("\x80"), el("é"), el("\uffff"), el("\U00010000"), el("\xff")},
	"texts":                 {text(""), text("\x00"), text("A"), text("a"), text("aA"), text("aa"), text("b"), text("b\x00"), text("\x80"), text("\uffff"), text("\U00010000"), text("\xff")},
	"kind, then name":       {{Kind: 1, Name: "b"}, {Kind: 2, Name: "a"}},
	"kind, then text":       {{Kind: 1, Text: "b"}, {Kind: 2, Text: "a"}},
	"kind, then attributes": {with(api.Tree{Kind: 1}, "b", ""), with(api.Tree{Kind: 2}, "a", "")},
	"kind, then kids":       {{Kind: 1, Kids: []api.Tree{el("a")}}, {Kind: 2}},
	"name, then text":       {worded(el("a"), "b"), worded(el("b"), "a")},
	"name, then attributes": {with(el("a"), "b", ""), with(el("b"), "a", ""), with(el("ba"))},
	"name, then kids":       {el("a", el("b")), el("b", el("a")), el("ba")},
	"text, then attributes": {with(text("a"), "b", ""), with(text("b"), "a", ""), text("ba")},
	"text, then kids":       {inside(text("a"), el("b")), inside(text("b"), el("a")), text("ba")},
	"attributes, then kids": {el("a", el("b")), with(el("a", el("a")), "a", ""), with(el("a"), "a", "1"), with(el("a"), "b", "")},
	"attributes one by one": {el("a"), with(el("a"), "", ""), with(el("a"), "", "", "", ""), with(el("a"), "", "", "z", "z"), with(el("a"), "", "1"), with(el("a"), "a", ""), with(el("a"), "a", "", "b", "9"), with(el("a"), "a", "1"), with(el("a"), "a", "1", "a", "1"), with(el("a"), "a", "1", "b", "2"), with(el("a"), "a", "1", "b", "2", "c", "3"), with(el("a"), "a", "1", "b", "3"), with(el("a"), "a", "1", "c", "1"), with(el("a"), "a", "2"), with(el("a"), "ab", ""), with(el("a"), "b", ""), with(el("a"), "b", "", "a", "")},
	"a name is no value":    {with(el("a"), "a", "b"), with(el("a"), "ab", "")},
	"kids one by one":       {el("a"), el("a", el("a")), el("a", el("a"), el("a")), el("a", el("a"), el("a"), el("a")), el("a", el("a"), el("b")), el("a", el("a"), text("a")), el("a", el("b")), el("a", el("b"), el("a")), el("a", text("a"))},
	"a kid with all in it":  {root(el("a"), el("b")), root(el("a", el("b"))), root(el("a", el("b")), el("c")), root(el("a", el("b"), el("c"))), root(el("a", el("b", el("a")), el("c"))), root(el("a", el("c")), el("b"))},
	"the first kid decides": {root(el("a", text("a")), text("z")), root(el("a", text("b")), text("a")), root(el("a", text("b")), text("b")), root(with(el("a"), "a", "1"), text("a"))},
	"deeper":                {chain(6, text("a")), chain(6, text("b")), chain(5, text("a")), chain(5, text("b"))},
	"in the kid of a kid":   {root(el("p", el("q"), el("q", text("a")))), root(el("p", el("q"), el("q", text("b")))), root(el("p", el("q"), with(el("q"), "a", "1")))},
	"two names are not one": {root(el("a"), el("b")), root(el("ab"))},
}

// holdCompare holds Compare and Same, both ways round, against what is wanted.
func holdCompare(t *testing.T, what string, i, k int, a, b api.Tree, want int) {
	t.Helper()
	if got := tree.Compare(a, b); got != want {
		t.Errorf("%s %d, %d: Compare %d, want %d", what, i, k, got, want)
	}
	if got := tree.Compare(b, a); got != -want {
		t.Errorf("%s %d, %d: Compare the other way round %d, want %d", what, k, i, got, -want)
	}
	if got := tree.Same(a, b); got != (want == 0) {
		t.Errorf("%s %d, %d: Same %t", what, i, k, got)
	}
	if got := tree.Same(b, a); got != (want == 0) {
		t.Errorf("%s %d, %d: Same %t", what, k, i, got)
	}
}

// P5.3: Compare by each part, in the chapter's order; and within other trees.
func TestCompareRising(t *testing.T) {
	for what, l := range rising {
		for i, a := range l {
			for k, b := range l {
				want := sign(i < k, i > k)
				holdCompare(t, what, i, k, a, b, want)
				holdCompare(t, what+", in others", i, k, root(el("p", a, text("z"))), root(el("p", b, text("z"))), want)
				holdCompare(t, what+", ahead of others", i, k, root(a, text("z")), root(b, text("a")), cmp.Or(want, 1))
			}
		}
	}
}

// leaves are nodes without kids.
func leaves() []api.Tree {
	var l []api.Tree
	for _, kind := range []int{1, 2} {
		for _, name := range []string{"", "a"} {
			for _, words := range []string{"", "a"} {
				for _, attrs := range [][]string{nil, {"a", ""}, {"a", "", "b", ""}, {"a", "b"}, {"b", ""}} {
					l = append(l, with(api.Tree{Kind: kind, Name: name, Text: words}, attrs...))
				}
			}
		}
	}
	return l
}

// sample are small trees, all in all kinds of ways to be less or more.
func sample() []api.Tree {
	a, b := el("a"), with(el("a"), "a", "")
	kids := [][]api.Tree{nil, {a}, {b}, {a, a}, {a, b}, {b, a}, {inside(a, a)}, {inside(a, b), a}, {inside(a, a, a)}, {a, inside(a, a)}}
	var l []api.Tree
	for _, x := range leaves() {
		for _, k := range kids {
			l = append(l, inside(x, k...))
		}
	}
	return l
}

// P5.3, P5.4: all pairs of many trees, against the chapter's words; of three, an order.
func TestCompareIsAnOrder(t *testing.T) {
	l := sample()
	c := make([][]int, len(l))
	for i, a := range l {
		c[i] = make([]int, len(l))
		for k, b := range l {
			c[i][k] = tree.Compare(a, b)
			if want := wantCompare(a, b); c[i][k] != want {
				t.Fatalf("Compare(%v, %v) = %d, want %d", a, b, c[i][k], want)
			}
			same := tree.Same(a, b)
			if same != wantSame(a, b) {
				t.Fatalf("Same(%v, %v) = %t", a, b, same)
			}
			if same != (c[i][k] == 0) {
				t.Fatalf("Same(%v, %v) = %t, Compare = %d", a, b, same, c[i][k])
			}
		}
	}
	for i := range l {
		for k := range l {
			if c[i][k] != -c[k][i] {
				t.Fatalf("Compare of %v and %v is not the other sign the other way round", l[i], l[k])
			}
			for m := range l {
				if c[i][k] <= 0 && c[k][m] <= 0 && c[i][m] != min(c[i][k], c[k][m]) {
					t.Fatalf("Compare of %v, %v, %v is no order", l[i], l[k], l[m])
				}
			}
		}
	}
}

// P5.4: what is sorted by Compare rises, whatever the order was.
func TestCompareSorts(t *testing.T) {
	for what, l := range rising {
		turned := slices.Clone(l)
		slices.Reverse(turned)
		slices.SortFunc(turned, tree.Compare)
		if !slices.EqualFunc(turned, l, wantSame) {
			t.Errorf("%s: not sorted as it was", what)
		}
	}
}

// P5.3: nil and an empty list are one, at t and deeper.
func TestNilAndEmpty(t *testing.T) {
	noAttrs, noKids := []api.Attr{}, []api.Tree{}
	forms := func(x api.Tree) []api.Tree {
		var l []api.Tree
		for _, attrs := range [][]api.Attr{nil, noAttrs, make([]api.Attr, 0, 3)} {
			for _, kids := range [][]api.Tree{nil, noKids, make([]api.Tree, 0, 3)} {
				y := x
				y.Attrs, y.Kids = attrs, kids
				l = append(l, y)
			}
		}
		return l
	}
	for i, x := range []api.Tree{{}, root(), el("a"), text("a"), comment(""), doctype("a")} {
		for k, a := range forms(x) {
			for m, b := range forms(x) {
				holdCompare(t, "nil and empty", k, m, a, b, 0)
				holdCompare(t, "nil and empty, deeper", k, m, root(el("p", a), a), root(el("p", b), b), 0)
				if tree.Check(a) != tree.Check(b) || tree.Check(root(a)) != tree.Check(root(b)) {
					t.Errorf("%d, %d, %d: Check tells nil from empty", i, k, m)
				}
				if tree.Size(a) != tree.Size(b) || tree.Depth(a) != tree.Depth(b) || tree.Slots(a) != tree.Slots(b) {
					t.Errorf("%d, %d, %d: a number tells nil from empty", i, k, m)
				}
			}
			if v, ok := tree.Attr(a, ""); v != "" || ok {
				t.Errorf("%d, %d: Attr %q, %t", i, k, v, ok)
			}
		}
	}
}

// P5.3, R1: trees that may not be, and far deeper than those, are compared as well.
func TestCompareVeryDeep(t *testing.T) {
	smallStack(t)
	a, b := chain(veryDeep, text("a")), chain(veryDeep, text("b"))
	holdCompare(t, "deep", 0, 0, a, chain(veryDeep, text("a")), 0)
	holdCompare(t, "deep", 0, 1, a, b, -1)
	holdCompare(t, "deeper by one", 0, 1, chain(veryDeep, el("p")), chain(veryDeep+1, el("p")), -1)
	wide := copies(20000, text("a"))
	holdCompare(t, "wide", 0, 0, root(wide...), root(slices.Clone(wide)...), 0)
	holdCompare(t, "wider by one", 0, 1, root(wide...), root(append(slices.Clone(wide), text(""))...), -1)
	holdCompare(t, "wide, the last", 0, 1, root(append(slices.Clone(wide), text("a"))...), root(append(slices.Clone(wide), text("b"))...), -1)
	holdCompare(t, "wide, the first", 0, 1, root(wide...), root(append([]api.Tree{text("b")}, wide[2:]...)...), -1)
}

// P5.3: Attr.
func TestAttr(t *testing.T) {
	kid := with(el("k"), "kid", "1")
	x := with(el("a", kid), "b", "1", "a", "2", "b", "3", "e", "", "e", "4", "", "none", "B", "5", "c", "", "b", "1")
	for _, w := range []struct {
		t           api.Tree
		name, value string
		ok          bool
	}{
		{x, "a", "2", true},
		{x, "b", "1", true},   // the first of three
		{x, "e", "", true},    // the first is empty
		{x, "c", "", true},    // there, and empty
		{x, "", "none", true}, // a name that may not be is a name to look for
		{x, "B", "5", true},
		{x, "A", "", false},
		{x, "d", "", false},
		{x, "2", "", false}, // a value
		{x, "kid", "", false},
		{x, "aa", "", false},
		{x, "no", "", false},
		{x, "a\x00", "", false},
		{root(x), "a", "", false},
		{el("a"), "a", "", false},
		{el("a"), "", "", false},
		{api.Tree{}, "", "", false},
		{with(text("a"), "a", "1"), "a", "1", true}, // whatever the Kind is
		{with(root(), "a", "1"), "a", "1", true},
		{with(el("x"), "a", "1", "b", "2"), "b", "2", true},
	} {
		if v, ok := tree.Attr(w.t, w.name); v != w.value || ok != w.ok {
			t.Errorf("Attr(%v, %q) = %q, %t, want %q, %t", w.t.Attrs, w.name, v, ok, w.value, w.ok)
		}
	}
}
