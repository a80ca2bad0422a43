package dom_test

import (
	"math"
	"runtime"
	"slices"
	"testing"

	"topiary/api"
	"topiary/dom"
	"topiary/tree"
)

// refusal is a call that is refused, and why.
type refusal struct {
	call
	want api.Errno
}

func ins(id, parent, at int, n api.Tree) call {
	return call{does: "Insert", id: id, parent: parent, at: at, node: n}
}

func del(id int) call { return call{does: "Delete", id: id} }

func mov(id, parent, at int) call { return call{does: "Move", id: id, parent: parent, at: at} }

func set(id int, name, value string) call {
	return call{does: "Set", id: id, name: name, value: value}
}

func uns(id int, name string) call { return call{does: "Unset", id: id, name: name} }

func txt(id int, s string) call { return call{does: "Text", id: id, value: s} }

// refuses holds calls against why they are refused, and asks for all there is behind each of them.
func refuses(t *testing.T, x api.Tree, l []refusal) {
	t.Helper()
	d, was := made(t, x), numbered(x)
	for i, r := range l {
		if got := r.onDom(d); got != r.want {
			t.Errorf("%d: %s(%d, %d, %d, a node of the kind %d, %.40q, %.40q): %v, want %v", i, r.does, r.id, r.parent, r.at, r.node.Kind, r.name, r.value, got, r.want)
		}
		mirrored(t, d, was)
		if t.Failed() {
			t.Fatalf("behind %d: %s", i, r.does)
		}
	}
	mirroredWithin(t, d, was)
}

// does holds calls that are not refused against the tree that is there behind them.
func does(t *testing.T, d *dom.Dom, want api.Tree, l ...call) {
	t.Helper()
	for i, c := range l {
		if e := c.onDom(d); e != api.OK {
			t.Fatalf("%d: %+v: %v", i, c, e)
		}
	}
	x := d.Tree()
	if !tree.Same(x, want) {
		t.Errorf("%+v: %v, want %v", l, x, want)
	}
	if !tree.Check(x) {
		t.Errorf("%+v: a tree that may not be", l)
	}
}

// full is a tree of MaxNodes nodes: 1 an Element with a Text 2, then Texts.
func full() api.Tree {
	return root(append([]api.Tree{el("a", text("x"))}, copies(api.MaxNodes-3, text("y"))...)...)
}

// deepest is a tree of MaxDepth nodes one in the other, an Element the last one, whose number is MaxDepth - 1; then an Element with a Text, a Comment, a Doctype.
func deepest() api.Tree {
	return root(chain(api.MaxDepth-2, el("last")), el("a", text("x")), comment("c"), doctype("d"))
}

// last is the number of deepest's last Element.
const last = api.MaxDepth - 1

// P6.2: Insert's errors, each by itself.
func TestInsertRefused(t *testing.T) {
	n := text("n")
	l := []refusal{
		{ins(0, 0, 0, n), api.ErrArg}, // there is a node of that number
		{ins(1, 0, 0, n), api.ErrArg},
		{ins(6, 0, 0, n), api.ErrArg},
		{ins(10, 0, 0, n), api.ErrArg},
		{ins(-1, 0, 0, n), api.ErrArg}, // it is not from 1 to 2^20
		{ins(math.MinInt, 0, 0, n), api.ErrArg},
		{ins(-1<<20, 0, 0, n), api.ErrArg},
		{ins(1<<20+1, 0, 0, n), api.ErrArg},
		{ins(1<<32+50, 0, 0, n), api.ErrArg},
		{ins(math.MaxInt, 0, 0, n), api.ErrArg},
		{ins(50, 11, 0, n), api.ErrNone},
		{ins(50, 50, 0, n), api.ErrNone},
		{ins(50, -1, 0, n), api.ErrNone},
		{ins(50, math.MinInt, 0, n), api.ErrNone},
		{ins(50, 1<<32, 0, n), api.ErrNone},
		{ins(50, 1, 0, n), api.ErrKind}, // a Doctype, a Text, a Comment as parents
		{ins(50, 3, 0, n), api.ErrKind},
		{ins(50, 10, 0, n), api.ErrKind},
		{ins(50, 2, 0, doctype("d")), api.ErrKind}, // a Doctype under an Element
		{ins(50, 5, 0, doctype("")), api.ErrKind},
		{ins(50, 0, -1, n), api.ErrPlace},
		{ins(50, 0, 5, n), api.ErrPlace},
		{ins(50, 2, 4, n), api.ErrPlace},
		{ins(50, 8, 1, n), api.ErrPlace},
		{ins(50, 2, math.MinInt, n), api.ErrPlace},
		{ins(50, 2, math.MaxInt, n), api.ErrPlace},
		{ins(50, 2, 1<<32, n), api.ErrPlace},
	}
	for _, n := range []api.Tree{ // nodes that may not be put in
		{},
		{Kind: -1},
		{Kind: 6, Text: "n"},
		{Kind: math.MaxInt, Name: "n"},
		root(),
		root(text("n")),
		endless(),
		el("n", text("n")),
		endless().Kids[0],
		with(el("n"), "a", ""),
		with(el("n"), "A", ""),
		el(""),
		el("N"),
		el(long(api.MaxName + 1)),
		{Kind: api.Element, Name: "n", Text: "n"},
		text(""),
		text(long(api.MaxText + 1)),
		{Kind: api.Text, Name: "n", Text: "n"},
		with(text("n"), "a", ""),
		{Kind: api.Text, Text: "n", Kids: []api.Tree{text("n")}},
		comment(long(api.MaxText + 1)),
		{Kind: api.Comment, Name: "n"},
		with(comment(""), "a", ""),
		{Kind: api.Comment, Kids: []api.Tree{text("n")}},
		doctype(long(api.MaxName + 1)),
		{Kind: api.Doctype, Text: "n"},
		with(doctype("n"), "a", ""),
		{Kind: api.Doctype, Kids: []api.Tree{text("n")}},
	} {
		l = append(l, refusal{ins(50, 0, 0, n), api.ErrArg})
	}
	refuses(t, page(), l)
	refuses(t, full(), []refusal{{ins(500, 0, 0, n), api.ErrBig}, {ins(500, 1, 1, n), api.ErrBig}})
	refuses(t, deepest(), []refusal{{ins(500, last, 0, n), api.ErrBig}, {ins(500, last, 0, el("n")), api.ErrBig}, {ins(500, last, 0, comment("")), api.ErrBig}})
}

// P6.2: where several of Insert's errors apply, it is the one that is named first.
func TestInsertFirstError(t *testing.T) {
	n := text("n")
	refuses(t, full(), []refusal{
		{ins(2, 0, 0, n), api.ErrArg},       // ErrArg ahead of ErrBig
		{ins(1<<20+1, 0, 0, n), api.ErrArg}, //
		{ins(500, 0, 0, text("")), api.ErrArg},
		{ins(500, 999, 0, n), api.ErrBig}, // ErrBig ahead of ErrNone
		{ins(500, 2, 0, n), api.ErrBig},   // and of ErrKind
		{ins(500, 1, 0, doctype("")), api.ErrBig},
		{ins(500, 1, 2, n), api.ErrBig}, // and of ErrPlace
		{ins(500, 0, -1, n), api.ErrBig},
		{ins(2, 999, -1, doctype("")), api.ErrArg},
	})
	refuses(t, deepest(), []refusal{
		{ins(1, 999, 0, n), api.ErrArg}, // ErrArg ahead of ErrNone
		{ins(999, 999, 0, text("")), api.ErrArg},
		{ins(1, last+2, 0, n), api.ErrArg}, // and of ErrKind
		{ins(500, last+2, 0, root()), api.ErrArg},
		{ins(0, 1, 0, doctype("")), api.ErrArg},
		{ins(1, 0, -1, n), api.ErrArg}, // and of ErrPlace
		{ins(500, 0, 9, el("")), api.ErrArg},
		{ins(1, last, 0, n), api.ErrArg}, // and of ErrBig
		{ins(500, last, 0, el("n", text("n"))), api.ErrArg},
		{ins(500, 999, 0, doctype("")), api.ErrNone}, // ErrNone ahead of ErrKind
		{ins(500, 999, -1, n), api.ErrNone},          // and of ErrPlace
		{ins(500, -1, 1, n), api.ErrNone},
		{ins(500, last+2, 1, n), api.ErrKind}, // ErrKind ahead of ErrPlace
		{ins(500, last+2, -1, n), api.ErrKind},
		{ins(500, last+1, -1, doctype("")), api.ErrKind},
		{ins(500, last, 0, doctype("")), api.ErrKind}, // and of ErrBig
		{ins(500, last, 1, n), api.ErrPlace},          // ErrPlace ahead of ErrBig
		{ins(500, last, -1, n), api.ErrPlace},
	})
	end := root(chain(api.MaxDepth-2, text("x")))
	refuses(t, end, []refusal{{ins(500, last, 0, n), api.ErrKind}, {ins(500, last, 1, n), api.ErrKind}})
}

// P6.2: Insert at each place.
func TestInsertPlaces(t *testing.T) {
	kids := []api.Tree{text("0"), el("1", text("in")), comment("2"), el("3")}
	for at := range len(kids) + 1 {
		for _, n := range []api.Tree{el("n"), text("n"), comment(""), comment("n")} {
			want := slices.Insert(slices.Clone(kids), at, n)
			does(t, made(t, root(kids...)), root(want...), ins(100, 0, at, n))
			does(t, made(t, root(el("a", kids...), text("y"))), root(el("a", want...), text("y")), ins(100, 1, at, n))
		}
		does(t, made(t, root(kids...)), root(slices.Insert(slices.Clone(kids), at, doctype("d"))...), ins(100, 0, at, doctype("d")))
	}
	d := made(t, root(el("a", kids...)))
	for i, want := range [][]int{{9, 2, 3, 5, 6}, {9, 2, 3, 5, 6, 8}, {9, 2, 7, 3, 5, 6, 8}} {
		if e := d.Insert(9-i, 1, []int{0, 5, 2}[i], el("n")); e != api.OK {
			t.Fatal(e)
		}
		if got := d.Kids(1); !slices.Equal(got, want) {
			t.Errorf("Kids: %v, want %v", got, want)
		}
		for at, id := range want {
			if d.Place(id) != at || d.Parent(id) != 1 {
				t.Errorf("%d: Place %d, Parent %d", id, d.Place(id), d.Parent(id))
			}
		}
	}
}

// P6.2: the numbers from 1 to 2^20, and the chapter's example.
func TestInsertNumbers(t *testing.T) {
	d := made(t, root())
	if e := d.Insert(7, 0, 0, text("a")); e != api.OK || !slices.Equal(d.Kids(0), []int{7}) {
		t.Error("the chapter's example:", e, d.Kids(0))
	}
	for _, id := range []int{1, 2, 6, 8, 299, 300, 301, 1 << 16, 1<<20 - 1, 1 << 20} {
		d := made(t, root())
		does(t, d, root(el("a", text("x"))), ins(id, 0, 0, el("a")), ins(id%100+500, id, 0, text("x")))
		sayOf(t, d, id, wantNode{el("a"), 0, 0, []int{id%100 + 500}})
		sayOf(t, d, id%100+500, wantNode{text("x"), id, 0, nil})
		if e := d.Insert(id, 0, 0, text("a")); e != api.ErrArg {
			t.Error("a number that is there:", e)
		}
	}
}

// P6.2: a number that was deleted is put in again, as another node, with nothing of the old one.
func TestInsertAgain(t *testing.T) {
	d := made(t, root(with(el("a"), "k", "1"), text("x"), el("b", text("y")))) // 1 a, 2 "x", 3 b, 4 "y"
	does(t, d, root(text("x"), el("b", text("y"), el("c"))), del(1), ins(1, 3, 1, el("c")))
	sayOf(t, d, 1, wantNode{el("c"), 3, 1, nil})
	does(t, d, root(el("x"), el("b", el("c"))), del(2), ins(2, 0, 0, el("x")), del(4))
	notThere(t, d, 4)
	does(t, d, root(el("x", comment("z")), el("b", el("c"))), ins(4, 2, 0, comment("z")))
	sayOf(t, d, 2, wantNode{el("x"), 0, 0, []int{4}})
	does(t, d, root(comment("b")), del(4), del(2), del(1), del(3), ins(3, 0, 0, comment("b")))
	does(t, d, root(el("a", el("b", el("c"))), comment("b")), ins(1, 0, 0, el("a")), ins(4, 1, 0, el("b")), ins(2, 4, 0, el("c")))
	mirroredWithin(t, d, rows{{0, 1, root()}, {1, 2, el("a")}, {4, 3, el("b")}, {2, 4, el("c")}, {3, 2, comment("b")}})
}

// P6.2: Insert up to MaxNodes, and again where one is gone.
func TestInsertMaxNodes(t *testing.T) {
	d := made(t, root(el("a")))
	for id := 2; id < api.MaxNodes; id++ {
		if e := d.Insert(1000+id, id%2, 0, text("n")); e != api.OK {
			t.Fatalf("node %d: %v", id, e)
		}
	}
	n := text("n")
	if d.Len() != api.MaxNodes || !tree.Check(d.Tree()) || d.Insert(5, 0, 0, n) != api.ErrBig || d.Insert(5, 1, 1, n) != api.ErrBig {
		t.Error("full:", d.Len())
	}
	for i, e := range []api.Errno{d.Move(1002, 1, 0), d.Move(1003, 0, 0), d.Set(1, "a", "1"), d.Text(1002, "t"), d.Delete(1004), d.Insert(1004, 0, 0, n)} {
		if e != api.OK {
			t.Error(i, e)
		}
	}
	if d.Len() != api.MaxNodes || d.Insert(5, 0, 0, n) != api.ErrBig || !tree.Check(d.Tree()) {
		t.Error("full again:", d.Len())
	}
}

// P6.2: Insert down to MaxDepth.
func TestInsertMaxDepth(t *testing.T) {
	d := made(t, root(text("x")))
	for depth := 2; depth <= api.MaxDepth; depth++ {
		parent := 1000 + depth - 1
		if depth == 2 {
			parent = 0
		}
		if e := d.Insert(1000+depth, parent, 0, el("p")); e != api.OK {
			t.Fatalf("depth %d: %v", depth, e)
		}
	}
	if !tree.Same(d.Tree(), root(chain(api.MaxDepth-1, el("p")).Kids[0], text("x"))) || tree.Depth(d.Tree()) != api.MaxDepth {
		t.Error("deep:", tree.Depth(d.Tree()))
	}
	end := 1000 + api.MaxDepth
	if d.Insert(5, end, 0, text("x")) != api.ErrBig || d.Insert(5, end, 0, el("p")) != api.ErrBig || d.Insert(5, end-1, 1, text("x")) != api.OK || d.Insert(6, end-1, 0, el("p")) != api.OK || d.Insert(7, 6, 0, el("p")) != api.ErrBig {
		t.Error("deeper")
	}
	if !tree.Check(d.Tree()) {
		t.Error("a tree that may not be")
	}
}

// P6.2: Delete's errors, each by itself, and the first one of two.
func TestDeleteRefused(t *testing.T) {
	l := []refusal{{del(0), api.ErrKind}, {del(2), api.ErrMore}, {del(4), api.ErrMore}, {del(5), api.ErrMore}}
	for _, id := range strange {
		l = append(l, refusal{del(id), api.ErrNone})
	}
	refuses(t, page(), l)
	refuses(t, root(), []refusal{{del(0), api.ErrKind}, {del(1), api.ErrNone}}) // the Root without kids
}

// P6.2: Delete of nodes without kids, of each kind, first, in the middle, last.
func TestDelete(t *testing.T) {
	kids := []api.Tree{doctype("0"), el("1"), text("2"), comment("3"), with(el("4"), "a", "")}
	for i := range kids {
		d := made(t, root(kids...))
		does(t, d, root(slices.Delete(slices.Clone(kids), i, i+1)...), del(i+1))
		notThere(t, d, i+1)
		var rest []int
		for k := range kids {
			if k != i {
				sayOf(t, d, k+1, wantNode{kids[k], 0, len(rest), nil})
				rest = append(rest, k+1)
			}
		}
		sayOf(t, d, 0, wantNode{root(), -1, -1, rest})
		if d.Len() != len(kids) || d.Delete(i+1) != api.ErrNone || d.Insert(100, i+1, 0, text("n")) != api.ErrNone {
			t.Errorf("%d: behind Delete: %d nodes", i+1, d.Len())
		}
	}
	d := made(t, page())
	does(t, d, root(), del(6), del(5), del(7), del(4), del(3), del(8), del(2), del(10), del(1), del(9))
	if d.Len() != 1 {
		t.Error(d.Len())
	}
	d = made(t, root(chain(api.MaxDepth-2, text("x"))))
	for id := api.MaxDepth - 1; id > 0; id-- {
		if id > 1 && d.Delete(1) != api.ErrMore || d.Delete(id) != api.OK {
			t.Error("from the deepest one up:", id)
		}
	}
}

// P6.2: Move's errors, each by itself.
func TestMoveRefused(t *testing.T) {
	l := []refusal{
		{mov(0, 0, 0), api.ErrKind}, // the Root
		{mov(0, 2, 0), api.ErrKind},
		{mov(2, 1, 0), api.ErrKind}, // into a Doctype, a Text, a Comment
		{mov(2, 9, 0), api.ErrKind},
		{mov(2, 10, 0), api.ErrKind},
		{mov(8, 3, 0), api.ErrKind},
		{mov(1, 2, 0), api.ErrKind}, // a Doctype into an Element
		{mov(1, 8, 0), api.ErrKind},
		{mov(2, 2, 0), api.ErrCycle}, // into itself, and into what lies in it
		{mov(8, 8, 0), api.ErrCycle},
		{mov(2, 4, 0), api.ErrCycle},
		{mov(2, 8, 0), api.ErrCycle},
		{mov(2, 5, 0), api.ErrCycle},
		{mov(4, 5, 1), api.ErrCycle},
		{mov(9, 0, -1), api.ErrPlace},
		{mov(9, 0, 4), api.ErrPlace}, // three others are there
		{mov(9, 0, 5), api.ErrPlace},
		{mov(3, 2, 3), api.ErrPlace},
		{mov(9, 2, 4), api.ErrPlace}, // three are there
		{mov(9, 8, 1), api.ErrPlace},
		{mov(6, 5, 1), api.ErrPlace}, // none is there but itself
		{mov(6, 5, math.MaxInt), api.ErrPlace},
		{mov(6, 5, math.MinInt), api.ErrPlace},
		{mov(6, 8, 1<<32), api.ErrPlace},
	}
	for _, id := range strange {
		l = append(l, refusal{mov(id, 0, 0), api.ErrNone}, refusal{mov(2, id, 0), api.ErrNone}, refusal{mov(id, id, 0), api.ErrNone})
	}
	refuses(t, page(), l)
	refuses(t, deepest(), []refusal{{mov(last+1, last, 0), api.ErrBig}, {mov(last+1, last-1, 1), api.ErrBig}, {mov(last+2, last, 0), api.ErrBig}, {mov(last+3, last, 0), api.ErrBig}})
}

// P6.2: where several of Move's errors apply, it is the one that is named first.
func TestMoveFirstError(t *testing.T) {
	a, x, c, d := last+1, last+2, last+3, last+4 // deepest's others
	refuses(t, deepest(), []refusal{
		{mov(999, x, 0), api.ErrNone}, // ErrNone, of the one or the other, ahead of ErrKind
		{mov(0, 999, 0), api.ErrNone},
		{mov(d, 999, 0), api.ErrNone},
		{mov(999, a, -1), api.ErrNone}, // and of ErrPlace
		{mov(a, 999, 9), api.ErrNone},
		{mov(999, last, 0), api.ErrNone}, // and of ErrBig
		{mov(0, 1, 0), api.ErrKind},      // ErrKind ahead of ErrCycle
		{mov(0, last, 0), api.ErrKind},
		{mov(0, x, 0), api.ErrKind},
		{mov(x, x, 0), api.ErrKind},
		{mov(a, x, 0), api.ErrKind},
		{mov(d, d, 0), api.ErrKind},
		{mov(0, 0, -1), api.ErrKind}, // and of ErrPlace
		{mov(a, c, 1), api.ErrKind},
		{mov(d, a, 9), api.ErrKind},
		{mov(d, last, 0), api.ErrKind}, // and of ErrBig
		{mov(1, 1, -1), api.ErrCycle},  // ErrCycle ahead of ErrPlace
		{mov(1, 2, 9), api.ErrCycle},
		{mov(last, last, 1), api.ErrCycle},
		{mov(1, last, 0), api.ErrCycle}, // and of ErrBig
		{mov(2, 3, 0), api.ErrCycle},
		{mov(a, last, -1), api.ErrPlace}, // ErrPlace ahead of ErrBig
		{mov(a, last, 1), api.ErrPlace},
		{mov(x, last, 1), api.ErrPlace},
	})
}

// P6.2: Move within one parent, from each place to each place.
func TestMoveWithin(t *testing.T) {
	kids := []api.Tree{text("0"), with(el("1", el("in", text("in"))), "a", ""), comment("2"), el("3"), text("4")}
	for from, n := range kids {
		others := slices.Delete(slices.Clone(kids), from, from+1)
		for to := range kids {
			want := slices.Insert(slices.Clone(others), to, n)
			d := made(t, root(kids...))
			does(t, d, root(want...), mov(d.Kids(0)[from], 0, to))
			d = made(t, root(text("x"), el("a", kids...), text("y")))
			id := d.Kids(2)[from]
			does(t, d, root(text("x"), el("a", want...), text("y")), mov(id, 2, to))
			if d.Place(id) != to || d.Parent(id) != 2 {
				t.Errorf("from %d to %d: Place %d", from, to, d.Place(id))
			}
		}
	}
	d := made(t, root(doctype("a"), text("b")))
	does(t, d, root(text("b"), doctype("a")), mov(1, 0, 1))
	does(t, d, root(doctype("a"), text("b")), mov(1, 0, 0))
}

// P6.2: Move to another parent, up and down, with all that is in it.
func TestMoveElsewhere(t *testing.T) {
	x := root(with(el("a", el("b", text("c")), text("d")), "k", "1"), el("e", text("f"), text("g")), el("h")) // 1 a, 2 b, 3 c, 4 d, 5 e, 6 f, 7 g, 8 h
	a := with(el("a", el("b", text("c")), text("d")), "k", "1")
	for at, want := range []api.Tree{
		root(el("e", a, text("f"), text("g")), el("h")),
		root(el("e", text("f"), a, text("g")), el("h")),
		root(el("e", text("f"), text("g"), a), el("h")),
	} {
		d := made(t, x)
		does(t, d, want, mov(1, 5, at))
		sayOf(t, d, 1, wantNode{with(el("a"), "k", "1"), 5, at, []int{2, 4}})
		sayOf(t, d, 2, wantNode{el("b"), 1, 0, []int{3}})
		if !d.Within(5, 3) || d.Within(8, 3) || !d.Within(1, 4) || d.Within(1, 5) {
			t.Error("Within, behind Move to", at)
		}
	}
	d := made(t, x)
	does(t, d, root(with(el("a", text("d")), "k", "1"), el("e", text("f"), text("g")), el("h", el("b", text("c")))), mov(2, 8, 0))
	does(t, d, root(el("e", text("f"), text("g")), el("h", el("b", text("c"), with(el("a", text("d")), "k", "1")))), mov(1, 2, 1)) // into what lay in it
	does(t, d, root(text("c"), el("e", text("f"), text("g")), el("h", el("b", with(el("a", text("d")), "k", "1")))), mov(3, 0, 0))
	does(t, d, root(text("c"), el("h", el("b", with(el("a", text("d"), el("e", text("f"), text("g"))), "k", "1")))), mov(5, 1, 1))
	does(t, d, root(text("c"), el("h", el("b")), with(el("a", text("d"), el("e", text("f"), text("g"))), "k", "1")), mov(1, 0, 2))
	does(t, d, root(text("c"), with(el("a", text("d"), el("e", text("f"), text("g"), el("h", el("b")))), "k", "1")), mov(8, 5, 2))
	if d.Len() != 9 {
		t.Error(d.Len())
	}
	for id := range 9 {
		if !d.Has(id) || !d.Within(0, id) {
			t.Error("gone:", id)
		}
	}
}

// tall is a node that is n deep; where that is more than one, its middle kid is the deep one.
func tall(n int) api.Tree {
	switch n {
	case 1:
		return text("x")
	case 2:
		return el("q", text("x"))
	}
	return el("q", text("x"), chain(n-2, text("x")), comment(""))
}

// P6.2: Move of what is deep, to just MaxDepth, and one more.
func TestMoveMaxDepth(t *testing.T) {
	for deep := 1; deep <= api.MaxDepth-2; deep++ {
		fits := api.MaxDepth - deep - 1 // the number of the parent below which it is just MaxDepth deep
		id := fits + 2
		x := root(chain(fits, el("p")), tall(deep))
		refuses(t, x, []refusal{{mov(id, fits+1, 0), api.ErrBig}})
		d := made(t, x)
		if e := d.Move(id, fits, 1); e != api.OK || tree.Depth(d.Tree()) != api.MaxDepth || !tree.Check(d.Tree()) {
			t.Errorf("%d deep: %v", deep, e)
		}
		if e := d.Move(id, fits, 0); e != api.OK || d.Place(id) != 0 {
			t.Errorf("%d deep, within its parent: %v", deep, e)
		}
		if e := d.Move(id, fits+1, 0); e != api.ErrBig {
			t.Errorf("%d deep, one further down: %v", deep, e)
		}
		does(t, d, x, mov(id, 0, 1))
	}
	x := root(el("a"), chain(api.MaxDepth-3, el("p")))
	does(t, made(t, x), root(el("a", chain(api.MaxDepth-3, el("p")))), mov(2, 1, 0))
	refuses(t, root(el("a"), chain(api.MaxDepth-2, el("p"))), []refusal{{mov(2, 1, 0), api.ErrBig}})
}

// P6.2: Set's errors, each by itself, and the first one of several.
func TestSetRefused(t *testing.T) {
	big := long(api.MaxText + 1)
	l := []refusal{
		{set(0, "a", "v"), api.ErrKind},
		{set(1, "a", "v"), api.ErrKind},
		{set(3, "a", "v"), api.ErrKind},
		{set(10, "a", "v"), api.ErrKind},
		{set(2, "id", big), api.ErrBig},
		{set(2, "a", big), api.ErrBig},
		{set(3, "A", "v"), api.ErrKind}, // ErrKind ahead of ErrAttr
		{set(0, "", big), api.ErrKind},
		{set(0, "a", big), api.ErrKind}, // and of ErrBig
		{set(2, "", big), api.ErrAttr},  // ErrAttr ahead of ErrBig
		{set(2, "a b", big), api.ErrAttr},
	}
	for _, name := range []string{"", "A", "aB", "a b", "a\t", "a=", "<", "\x00", "/", ">", "\"", "'", long(api.MaxName + 1), long(1 << 16)} {
		l = append(l, refusal{set(2, name, "v"), api.ErrAttr})
	}
	for _, id := range strange {
		l = append(l, refusal{set(id, "a", "v"), api.ErrNone}, refusal{set(id, "", "v"), api.ErrNone}, refusal{set(id, "a", big), api.ErrNone})
	}
	refuses(t, page(), l)
	refuses(t, root(with(el("a"), many(api.MaxAttrs)...)), []refusal{
		{set(1, "z", ""), api.ErrBig},
		{set(1, "0", ""), api.ErrBig},
		{set(1, "aa", "v"), api.ErrBig},
		{set(1, "z", big), api.ErrBig},
		{set(1, "a", big), api.ErrBig},
		{set(1, "Z", ""), api.ErrAttr},
		{set(1, "", big), api.ErrAttr},
	})
}

// P6.2: Set of names that are there, and of such that are not; the attributes are in order.
func TestSet(t *testing.T) {
	d := made(t, root(with(el("a"), "d", "1", "m", "2")))
	for _, x := range []struct {
		name, value string
		want        []string
	}{
		{"m", "3", []string{"d", "1", "m", "3"}},
		{"d", "", []string{"d", "", "m", "3"}},
		{"d", "", []string{"d", "", "m", "3"}},
		{"z", "4", []string{"d", "", "m", "3", "z", "4"}},
		{"a", "5", []string{"a", "5", "d", "", "m", "3", "z", "4"}},
		{"e", "", []string{"a", "5", "d", "", "e", "", "m", "3", "z", "4"}},
		{"da", "6", []string{"a", "5", "d", "", "da", "6", "e", "", "m", "3", "z", "4"}},
		{"-", "<>\x00\xff", []string{"-", "<>\x00\xff", "a", "5", "d", "", "da", "6", "e", "", "m", "3", "z", "4"}},
		{"\xff", "7", []string{"-", "<>\x00\xff", "a", "5", "d", "", "da", "6", "e", "", "m", "3", "z", "4", "\xff", "7"}},
		{"é", "8", []string{"-", "<>\x00\xff", "a", "5", "d", "", "da", "6", "e", "", "m", "3", "z", "4", "é", "8", "\xff", "7"}},
		{"a", "9", []string{"-", "<>\x00\xff", "a", "9", "d", "", "da", "6", "e", "", "m", "3", "z", "4", "é", "8", "\xff", "7"}},
	} {
		does(t, d, root(with(el("a"), x.want...)), set(1, x.name, x.value))
		sayOf(t, d, 1, wantNode{with(el("a"), x.want...), 0, 0, nil})
	}
	d = made(t, page())
	want := page()
	want.Kids[1].Kids[1].Kids[0] = with(el("c", text("in c")), long(api.MaxName), long(api.MaxText))
	does(t, d, want, set(5, long(api.MaxName), long(api.MaxText)))
}

// P6.2: Set up to MaxAttrs, in whatever order the names come.
func TestSetMaxAttrs(t *testing.T) {
	names := []string{"g", "a", "l", "c", "k", "b", "f", "h", "e", "d", "j", "i"}
	d := made(t, root(el("x"), el("y")))
	for i, name := range names {
		does(t, d, root(with(el("x"), sorted(names[:i+1])...), el("y")), set(1, name, name))
	}
	if len(names) != api.MaxAttrs || d.Set(1, "m", "") != api.ErrBig || d.Set(1, "0", "") != api.ErrBig {
		t.Error("one more than MaxAttrs")
	}
	full := with(el("x"), sorted(names)...)
	does(t, d, root(full, with(el("y"), "m", "")), set(2, "m", ""))
	full.Attrs[3].Value = "another"
	does(t, d, root(full, with(el("y"), "m", "")), set(1, "d", "another"))
	full.Attrs = append(full.Attrs[1:], api.Attr{Name: "m", Value: "13"})
	does(t, d, root(full, with(el("y"), "m", "")), uns(1, "a"), set(1, "m", "13"))
	if d.Set(1, "a", "") != api.ErrBig {
		t.Error("one more than MaxAttrs, again")
	}
}

// sorted are names, each as its own value, in order.
func sorted(names []string) []string {
	var l []string
	for _, n := range slices.Sorted(slices.Values(names)) {
		l = append(l, n, n)
	}
	return l
}

// P6.2: Unset's errors, each by itself, and the first one of several.
func TestUnsetRefused(t *testing.T) {
	l := []refusal{
		{uns(0, "id"), api.ErrKind},
		{uns(1, "id"), api.ErrKind},
		{uns(3, ""), api.ErrKind},
		{uns(10, "A"), api.ErrKind},
		{uns(2, "i"), api.ErrAttr},
		{uns(2, "idd"), api.ErrAttr},
		{uns(2, "a"), api.ErrAttr},
		{uns(2, "zz"), api.ErrAttr},
		{uns(2, "ID"), api.ErrAttr},
		{uns(2, ""), api.ErrAttr},
		{uns(2, long(1<<16)), api.ErrAttr},
		{uns(2, "k"), api.ErrAttr}, // it is another node's
		{uns(8, "id"), api.ErrAttr},
	}
	for _, id := range strange {
		l = append(l, refusal{uns(id, "id"), api.ErrNone}, refusal{uns(id, ""), api.ErrNone})
	}
	refuses(t, page(), l)
}

// P6.2: Unset of each attribute.
func TestUnset(t *testing.T) {
	attrs := []api.Attr{{Name: "a", Value: "1"}, {Name: "b"}, {Name: "c", Value: "3"}, {Name: "d", Value: "4"}}
	x := api.Tree{Kind: api.Element, Name: "x", Attrs: attrs, Kids: []api.Tree{text("y")}}
	for i, a := range attrs {
		want := x
		want.Attrs = slices.Delete(slices.Clone(attrs), i, i+1)
		d := made(t, root(x, x))
		does(t, d, root(want, x), uns(1, a.Name))
		if d.Unset(1, a.Name) != api.ErrAttr {
			t.Error("still there:", a.Name)
		}
		does(t, d, root(x, x), set(1, a.Name, a.Value))
	}
	does(t, made(t, root(x)), root(el("x", text("y"))), uns(1, "b"), uns(1, "d"), uns(1, "a"), uns(1, "c"))
}

// P6.2: Text's errors, each by itself, and the first one of several.
func TestTextRefused(t *testing.T) {
	big := long(api.MaxText + 1)
	l := []refusal{
		{txt(0, "t"), api.ErrKind},
		{txt(1, "t"), api.ErrKind},
		{txt(2, "t"), api.ErrKind},
		{txt(8, "t"), api.ErrKind},
		{txt(3, ""), api.ErrArg},
		{txt(6, ""), api.ErrArg},
		{txt(3, big), api.ErrBig},
		{txt(7, big), api.ErrBig},
		{txt(10, big), api.ErrBig},
		{txt(3, long(1<<20)), api.ErrBig},
		{txt(0, ""), api.ErrKind}, // ErrKind ahead of ErrArg
		{txt(2, ""), api.ErrKind},
		{txt(1, big), api.ErrKind}, // and of ErrBig
		{txt(2, big), api.ErrKind},
	}
	for _, id := range strange {
		l = append(l, refusal{txt(id, "t"), api.ErrNone}, refusal{txt(id, ""), api.ErrNone}, refusal{txt(id, big), api.ErrNone})
	}
	refuses(t, page(), l)
}

// P6.2: Text of Texts and of Comments.
func TestText(t *testing.T) {
	d := made(t, root(text("x"), comment("y"), el("a", text("z"))))
	for _, s := range []string{"t", " ", "x", "\x00\xff<p>", long(api.MaxText - 1), long(api.MaxText)} {
		does(t, d, root(text(s), comment("y"), el("a", text("z"))), txt(1, s))
		does(t, d, root(text(s), comment(s), el("a", text("z"))), txt(2, s))
		does(t, d, root(text(s), comment(""), el("a", text(s))), txt(2, ""), txt(4, s))
		does(t, d, root(text(s), comment("y"), el("a", text("z"))), txt(2, "y"), txt(4, "z"))
	}
}

// used is how many bytes are in use.
func used() int {
	runtime.GC()
	var m runtime.MemStats
	runtime.ReadMemStats(&m)
	return int(m.HeapAlloc)
}

// all does calls that are not refused.
func all(t *testing.T, d *dom.Dom, l ...call) {
	t.Helper()
	for i, c := range l {
		if e := c.onDom(d); e != api.OK {
			t.Fatalf("%d: %s(%d): %v", i, c.does, c.id, e)
		}
	}
}

// What is gone is not kept: big texts and values leave no more than the tree has, be they there one after the other or all at once.
func TestNothingKept(t *testing.T) {
	big := func() string { return long(api.MaxText) }
	d := made(t, root(el("a"), comment("")))
	was := used()
	for i := range 1 << 13 {
		id := 3 + i*61
		all(t, d, ins(id, 0, i%3, text(big())), set(1, "k", big()), txt(2, big()), uns(1, "k"), txt(2, ""), del(id))
	}
	for id := 3; id < api.MaxNodes; id++ {
		all(t, d, ins(id, 0, 0, el("b")))
		for i := range api.MaxAttrs {
			all(t, d, set(id, string(rune('a'+i)), big()))
		}
		for i := range api.MaxAttrs {
			all(t, d, uns(id, string(rune('a'+i))))
		}
	}
	if now := used(); now > was+1<<19 {
		t.Errorf("texts that are gone: %d bytes more", now-was)
	}
	for id := 3; id < api.MaxNodes; id++ {
		all(t, d, del(id), ins(id, 1, 0, text(big())))
	}
	for id := 3; id < api.MaxNodes; id++ {
		all(t, d, del(id))
	}
	if now := used(); now > was+1<<19 {
		t.Errorf("nodes that are gone: %d bytes more", now-was)
	}
	does(t, d, root(el("a"), comment("")))
}
