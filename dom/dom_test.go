package dom_test

import (
	"math"
	"reflect"
	"slices"
	"strings"
	"testing"

	"topiary/api"
	"topiary/dom"
	"topiary/tree"
)

// The signatures that the chapter lists.
var (
	_ func(api.Tree) (*dom.Dom, api.Errno)                   = dom.New
	_ func(*dom.Dom) api.Tree                                = (*dom.Dom).Tree
	_ func(*dom.Dom) int                                     = (*dom.Dom).Len
	_ func(*dom.Dom, int) bool                               = (*dom.Dom).Has
	_ func(*dom.Dom, int) (api.Tree, bool)                   = (*dom.Dom).Node
	_ func(*dom.Dom, int) int                                = (*dom.Dom).Parent
	_ func(*dom.Dom, int) []int                              = (*dom.Dom).Kids
	_ func(*dom.Dom, int) int                                = (*dom.Dom).Place
	_ func(*dom.Dom, int, int) bool                          = (*dom.Dom).Within
	_ func(*dom.Dom, int, int, int, api.Tree) api.Errno      = (*dom.Dom).Insert
	_ func(*dom.Dom, int) api.Errno                          = (*dom.Dom).Delete
	_ func(d *dom.Dom, id, parent, at int) api.Errno         = (*dom.Dom).Move
	_ func(d *dom.Dom, id int, name, value string) api.Errno = (*dom.Dom).Set
	_ func(d *dom.Dom, id int, name string) api.Errno        = (*dom.Dom).Unset
	_ func(d *dom.Dom, id int, text string) api.Errno        = (*dom.Dom).Text
)

func root(kids ...api.Tree) api.Tree { return api.Tree{Kind: api.Root, Kids: kids} }

func el(name string, kids ...api.Tree) api.Tree {
	return api.Tree{Kind: api.Element, Name: name, Kids: kids}
}

func text(s string) api.Tree { return api.Tree{Kind: api.Text, Text: s} }

func comment(s string) api.Tree { return api.Tree{Kind: api.Comment, Text: s} }

func doctype(name string) api.Tree { return api.Tree{Kind: api.Doctype, Name: name} }

// with is a node with attributes: names and values, by turns.
func with(t api.Tree, l ...string) api.Tree {
	t.Attrs = nil
	for i := 0; i < len(l); i += 2 {
		t.Attrs = append(t.Attrs, api.Attr{Name: l[i], Value: l[i+1]})
	}
	return t
}

// chain is a node within n elements.
func chain(n int, t api.Tree) api.Tree {
	for range n {
		t = el("p", t)
	}
	return t
}

// copies are n nodes that are one.
func copies(n int, t api.Tree) []api.Tree { return slices.Repeat([]api.Tree{t}, n) }

// long is a text of n bytes.
func long(n int) string { return strings.Repeat("x", n) }

// many are names and values of n attributes whose names rise.
func many(n int) []string {
	var l []string
	for i := range n {
		l = append(l, string(rune('a'+i)), "")
	}
	return l
}

// endless is a tree that is its own kid.
func endless() api.Tree {
	kids := []api.Tree{el("p")}
	kids[0].Kids = kids
	return root(kids...)
}

// made is New of a tree that may be.
func made(t *testing.T, x api.Tree) *dom.Dom {
	t.Helper()
	d, e := dom.New(x)
	if e != api.OK || d == nil {
		t.Fatalf("New: %v, %v", d, e)
	}
	return d
}

// page is a tree of all kinds, with its numbers at the sides.
func page() api.Tree {
	return root( // 0
		doctype("html"), // 1
		with(el("a", // 2
			text("x"), // 3
			with(el("b", // 4
				el("c", // 5
					text("in c"), // 6
				),
				comment("in b"), // 7
			), "k", "1"),
			el("d"), // 8
		), "id", "2", "z", ""),
		text("y"),   // 9
		comment(""), // 10
	)
}

// wantNode is what the asking functions say of a number.
type wantNode struct {
	node   api.Tree
	parent int
	place  int
	kids   []int
}

// pageNodes are page's nodes, by their numbers.
var pageNodes = []wantNode{
	{root(), -1, -1, []int{1, 2, 9, 10}},
	{doctype("html"), 0, 0, nil},
	{with(el("a"), "id", "2", "z", ""), 0, 1, []int{3, 4, 8}},
	{text("x"), 2, 0, nil},
	{with(el("b"), "k", "1"), 2, 1, []int{5, 7}},
	{el("c"), 4, 0, []int{6}},
	{text("in c"), 5, 0, nil},
	{comment("in b"), 4, 1, nil},
	{el("d"), 2, 2, nil},
	{text("y"), 0, 2, nil},
	{comment(""), 0, 3, nil},
}

// strange are numbers that no node has, till somebody puts one in: the last of them may be put in.
var strange = []int{math.MinInt, math.MinInt + 1, -1 << 32, -1 << 20, -300, -2, -1, 1<<20 + 1, 1 << 31, 1 << 32, 1<<32 + 1, 1<<40 + 2, math.MaxInt - 1, math.MaxInt, 11, 12, 299, 300, 1 << 16, 1<<20 - 1, 1 << 20}

// sayOf holds what the asking functions say of a number against what is wanted.
func sayOf(t *testing.T, d *dom.Dom, id int, want wantNode) {
	t.Helper()
	if !d.Has(id) {
		t.Errorf("Has(%d) is not true", id)
	}
	if n, ok := d.Node(id); !ok || !tree.Same(n, want.node) || len(n.Kids) != 0 {
		t.Errorf("Node(%d): %v, %t, want %v", id, n, ok, want.node)
	}
	if got := d.Parent(id); got != want.parent {
		t.Errorf("Parent(%d): %d, want %d", id, got, want.parent)
	}
	if got := d.Place(id); got != want.place {
		t.Errorf("Place(%d): %d, want %d", id, got, want.place)
	}
	if got := d.Kids(id); !slices.Equal(got, want.kids) {
		t.Errorf("Kids(%d): %v, want %v", id, got, want.kids)
	}
}

// notThere asks for a number that no node has.
func notThere(t *testing.T, d *dom.Dom, id int) {
	t.Helper()
	if d.Has(id) {
		t.Errorf("Has(%d) is true", id)
	}
	if n, ok := d.Node(id); ok || !reflect.DeepEqual(n, api.Tree{}) {
		t.Errorf("Node(%d): %v, %t", id, n, ok)
	}
	if got := d.Parent(id); got != -1 {
		t.Errorf("Parent(%d): %d", id, got)
	}
	if got := d.Place(id); got != -1 {
		t.Errorf("Place(%d): %d", id, got)
	}
	if got := d.Kids(id); len(got) != 0 {
		t.Errorf("Kids(%d): %v", id, got)
	}
}

// P6.1: New of a tree that may not be.
func TestNewRefused(t *testing.T) {
	for i, x := range []api.Tree{
		{},
		{Kids: []api.Tree{text("a")}},
		el("a"),
		text("a"),
		{Kind: -1},
		{Kind: 6},
		{Kind: api.Root, Name: "a"},
		{Kind: api.Root, Text: "a"},
		with(root(), "a", ""),
		root(root()),
		root(text("")),
		root(el("")),
		root(el("A")),
		root(el("a", text("x"), el("b", text("")))),
		root(el("a", doctype("html"))),
		root(with(el("a"), "b", "", "a", "")),
		root(with(el("a"), "a", "", "a", "")),
		root(with(el("a"), many(api.MaxAttrs+1)...)),
		root(text(long(api.MaxText + 1))),
		root(chain(api.MaxDepth-1, text("x"))),
		root(copies(api.MaxNodes, text("x"))...),
		endless(),
	} {
		if d, e := dom.New(x); d != nil || e != api.ErrArg {
			t.Errorf("%d: New is %v, %v", i, d, e)
		}
	}
}

// P6.1: the numbers, and each asking function at each of them, the Root's too.
func TestNumbers(t *testing.T) {
	d := made(t, page())
	if d.Len() != len(pageNodes) {
		t.Error("Len:", d.Len())
	}
	for id, want := range pageNodes {
		sayOf(t, d, id, want)
	}
	if !tree.Same(d.Tree(), page()) {
		t.Error("Tree:", d.Tree())
	}
}

// P6.1: numbers that are not there.
func TestNumbersNotThere(t *testing.T) {
	d := made(t, page())
	for _, id := range strange {
		notThere(t, d, id)
	}
	one := made(t, root())
	for _, id := range append(strange, 1, 2, 10) {
		notThere(t, one, id)
	}
}

// P6.1: a Root alone.
func TestRootAlone(t *testing.T) {
	d := made(t, root())
	if d.Len() != 1 || !tree.Same(d.Tree(), root()) || !d.Within(0, 0) {
		t.Error(d.Len(), d.Tree())
	}
	sayOf(t, d, 0, wantNode{root(), -1, -1, nil})
}

// P6.1: trees that are as big as may be.
func TestNewBig(t *testing.T) {
	wide := root(copies(api.MaxNodes-1, text("x"))...)
	deep := root(chain(api.MaxDepth-2, text("x")))
	both := root(append(copies(api.MaxNodes-api.MaxDepth, comment("")), chain(api.MaxDepth-2, text("x")))...)
	rich := root(with(el(long(api.MaxName)), many(api.MaxAttrs)...), text(long(api.MaxText)), comment(long(api.MaxText)), doctype(long(api.MaxName)))
	for i, x := range []api.Tree{wide, deep, both, rich} {
		d := made(t, x)
		if !tree.Same(d.Tree(), x) || d.Len() != tree.Size(x) {
			t.Errorf("%d: %d nodes", i, d.Len())
		}
		mirrored(t, d, numbered(x))
	}
	d := made(t, deep)
	for id := 1; id < api.MaxDepth; id++ {
		if d.Parent(id) != id-1 || d.Place(id) != 0 {
			t.Errorf("deep: Parent(%d) is %d", id, d.Parent(id))
		}
	}
}

// pageWithin are the numbers of page's nodes that are within each one.
var pageWithin = [][]int{
	{0, 1, 2, 3, 4, 5, 6, 7, 8, 9, 10},
	{1},
	{2, 3, 4, 5, 6, 7, 8},
	{3},
	{4, 5, 6, 7},
	{5, 6},
	{6},
	{7},
	{8},
	{9},
	{10},
}

// P6.1: Within, of all numbers, both ways round.
func TestWithin(t *testing.T) {
	d := made(t, page())
	for id, in := range pageWithin {
		for x := range pageWithin {
			if got := d.Within(id, x); got != slices.Contains(in, x) {
				t.Errorf("Within(%d, %d) is %t", id, x, got)
			}
		}
	}
	for _, s := range strange {
		for id := range pageWithin {
			if d.Within(id, s) || d.Within(s, id) {
				t.Errorf("Within of %d and %d", id, s)
			}
		}
		for _, other := range strange {
			if d.Within(s, other) {
				t.Errorf("Within(%d, %d) is true", s, other)
			}
		}
	}
}

// roomy is a tree like t whose lists have spare room, with something in it.
func roomy(t api.Tree) api.Tree {
	attrs := append(slices.Clone(t.Attrs), api.Attr{Name: "spare", Value: "attribute"}, api.Attr{Name: "a"})
	var kids []api.Tree
	for _, k := range t.Kids {
		kids = append(kids, roomy(k))
	}
	kids = append(kids, el("spare"), text("spare"))
	t.Attrs, t.Kids = attrs[:len(t.Attrs)], kids[:len(t.Kids)]
	return t
}

// whole is a copy of a tree with all that is in its lists' room.
func whole(t api.Tree) api.Tree {
	t.Attrs = slices.Clone(t.Attrs[:cap(t.Attrs)])
	kids := []api.Tree{}
	for _, k := range t.Kids[:cap(t.Kids)] {
		kids = append(kids, whole(k))
	}
	t.Kids = kids
	return t
}

// spoil writes over all that is in a tree's lists, their room too.
func spoil(t api.Tree) {
	for _, k := range t.Kids {
		spoil(k)
	}
	for i := range t.Kids[:cap(t.Kids)] {
		t.Kids[:cap(t.Kids)][i] = text("spoilt")
	}
	for i := range t.Attrs[:cap(t.Attrs)] {
		t.Attrs[:cap(t.Attrs)][i] = api.Attr{Name: "spoilt", Value: "spoilt"}
	}
}

// spoilSpare writes over the spare room of a tree's lists, and nothing else.
func spoilSpare(t api.Tree) {
	for i := len(t.Kids); i < cap(t.Kids); i++ {
		t.Kids[:cap(t.Kids)][i] = text("spoilt")
	}
	for i := len(t.Attrs); i < cap(t.Attrs); i++ {
		t.Attrs[:cap(t.Attrs)][i] = api.Attr{Name: "spoilt", Value: "spoilt"}
	}
	for _, k := range t.Kids {
		spoilSpare(k)
	}
}

// turns does each of the turning functions on page's numbers, so that all is turned.
func turns(t *testing.T, d *dom.Dom) {
	t.Helper()
	for i, e := range []api.Errno{
		d.Insert(20, 2, 1, el("new")),
		d.Insert(21, 20, 0, text("new")),
		d.Insert(22, 0, 4, comment("new")),
		d.Insert(23, 8, 0, comment("new")),
		d.Set(2, "a", "first"),
		d.Set(2, "id", "turned"),
		d.Set(2, "zz", "last"),
		d.Set(8, "b", "only"),
		d.Set(20, "c", "only"),
		d.Unset(4, "k"),
		d.Text(3, "turned"),
		d.Text(10, "turned"),
		d.Move(4, 0, 0),
		d.Move(9, 0, 5),
		d.Delete(6),
		d.Delete(1),
	} {
		if e != api.OK {
			t.Fatal("the test's own operation", i, e)
		}
	}
}

// turned is page behind turns.
func turned() api.Tree {
	return root(
		el("b", el("c"), comment("in b")),
		with(el("a", text("turned"), with(el("new", text("new")), "c", "only"), with(el("d", comment("new")), "b", "only")), "a", "first", "id", "turned", "z", "", "zz", "last"),
		comment("turned"),
		comment("new"),
		text("y"),
	)
}

// R3: what is handed in is neither changed nor kept, its lists' spare room neither.
func TestHandedInStays(t *testing.T) {
	x := roomy(page())
	was := whole(x)
	d := made(t, x)
	turns(t, d)
	if !reflect.DeepEqual(whole(x), was) {
		t.Error("New's tree was changed")
	}
	spoil(x)
	if !tree.Same(d.Tree(), turned()) {
		t.Error("New's tree was kept:", d.Tree())
	}
	d = made(t, root())
	n := roomy(el("n"))
	was = whole(n)
	if e := d.Insert(5, 0, 0, n); e != api.OK {
		t.Fatal(e)
	}
	for i, e := range []api.Errno{d.Set(5, "a", "1"), d.Set(5, "b", "2"), d.Insert(6, 5, 0, n), d.Insert(7, 5, 0, text("y")), d.Set(6, "c", "3"), d.Move(6, 0, 0)} {
		if e != api.OK {
			t.Error(i, e)
		}
	}
	if !reflect.DeepEqual(whole(n), was) {
		t.Error("Insert's node was changed")
	}
	spoil(n)
	if want := root(with(el("n"), "c", "3"), with(el("n", text("y")), "a", "1", "b", "2")); !tree.Same(d.Tree(), want) {
		t.Error("Insert's node was kept:", d.Tree())
	}
}

// R3: what is handed out is not turned by what is done later.
func TestHandedOutStays(t *testing.T) {
	d := made(t, page())
	x := d.Tree()
	var nodes []api.Tree
	var kids [][]int
	for id := range pageNodes {
		n, _ := d.Node(id)
		nodes, kids = append(nodes, n), append(kids, d.Kids(id))
	}
	turns(t, d)
	if !tree.Same(x, page()) {
		t.Error("Tree was turned:", x)
	}
	for id, want := range pageNodes {
		if !tree.Same(nodes[id], want.node) || !slices.Equal(kids[id], want.kids) {
			t.Errorf("Node(%d), Kids(%d) were turned: %v, %v", id, id, nodes[id], kids[id])
		}
	}
}

// R3: what is handed out is its asker's: what is written to it nobody sees.
func TestHandedOutIsNew(t *testing.T) {
	d := made(t, page())
	spoil(d.Tree())
	for id := range pageNodes {
		n, _ := d.Node(id)
		spoil(n)
		kids := d.Kids(id)
		for i := range kids[:cap(kids)] {
			kids[:cap(kids)][i] = 99
		}
	}
	for id, want := range pageNodes {
		sayOf(t, d, id, want)
	}
	turns(t, d)
	x := d.Tree()
	spoilSpare(x)
	if !tree.Same(x, turned()) || !tree.Same(d.Tree(), turned()) {
		t.Error("lists share their room:", x)
	}
}

// R4: two objects have nothing in common, be they made of one tree.
func TestTwoObjects(t *testing.T) {
	x := page()
	a, b := made(t, x), made(t, x)
	turns(t, a)
	c := made(t, x)
	for _, d := range []*dom.Dom{b, c} {
		for id, want := range pageNodes {
			sayOf(t, d, id, want)
		}
		notThere(t, d, 20)
		turns(t, d)
		if !tree.Same(d.Tree(), turned()) {
			t.Error(d.Tree())
		}
	}
}
