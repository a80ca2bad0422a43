package serial_test

import (
	"reflect"
	"slices"
	"testing"

	"topiary/api"
	"topiary/serial"
	"topiary/tree"
)

// memory is what stands in all lists of a tree, their spare room too.
type memory struct {
	tree  api.Tree
	lists []memory
}

// remember is a tree's memory as it is now.
func remember(t api.Tree) memory {
	m := memory{tree: t}
	m.tree.Attrs = slices.Clone(t.Attrs[:cap(t.Attrs)])
	m.tree.Kids = slices.Clone(t.Kids[:cap(t.Kids)])
	for _, k := range m.tree.Kids {
		m.lists = append(m.lists, remember(k))
	}
	return m
}

// holds tells whether a tree's memory is as it was.
func (m memory) holds(t api.Tree) bool { return reflect.DeepEqual(remember(t), m) }

// rooms counts how often each place in memory belongs to a list of a tree, spare room too.
func rooms(t api.Tree, count map[any]int) {
	attrs, kids := t.Attrs[:cap(t.Attrs)], t.Kids[:cap(t.Kids)]
	for i := range attrs {
		count[&attrs[i]]++
	}
	for i := range kids {
		count[&kids[i]]++
		rooms(kids[i], count)
	}
}

// roomy is a tree like t whose lists have spare room, with something in it.
func roomy(t api.Tree) api.Tree {
	attrs := append(slices.Clone(t.Attrs), api.Attr{Name: "spare", Value: "attribute"}, api.Attr{})
	var kids []api.Tree
	for _, k := range t.Kids {
		kids = append(kids, roomy(k))
	}
	kids = append(kids, text("spare"), text(""), el("spare"))
	t.Attrs, t.Kids = attrs[:len(t.Attrs)], kids[:len(t.Kids)]
	return t
}

// wantNew holds the memory of what Join answers against that of what was handed in: none is the same, and no two lists of the answer have any together.
func wantNew(t *testing.T, x api.Tree) {
	t.Helper()
	was := remember(x)
	got := serial.Join(x)
	given, answered := map[any]int{}, map[any]int{}
	rooms(x, given)
	rooms(got, answered)
	for place, n := range answered {
		if given[place] > 0 {
			t.Fatal("a list of the answer shares memory with one that was handed in")
		}
		if n > 1 {
			t.Fatal("two lists of one answer share memory")
		}
	}
	if !was.holds(x) {
		t.Fatal("what was handed in was changed")
	}
	if want := secondJoin(x); !tree.Same(got, want) {
		t.Fatalf("joined it is %q, want %q", short(serial.Text(got)), short(serial.Text(want)))
	}
}

// P16.2, R3: the answer is new memory, and what is handed in stays, spare room too; be it joined or not, and in all depths.
func TestJoinNewMemory(t *testing.T) {
	p := with(el("p", text("a"), text("b"), with(el("q", text("c")), "y", ""), comment("z")), "x", "1", "y", "2")
	one := with(full(api.Text, text("d"), text("e")), "z", "3")
	for _, x := range []api.Tree{
		root(),
		text(""),
		text("a"),
		p,
		root(p),
		root(p, p, text("a"), text(""), p),
		root(text("a"), text("b"), text("c")),
		root(one, one, comment("c"), one),
		with(text("a"), "x", "1"),
		full(9, full(0, full(-1, text("a"))), full(api.Doctype, p)),
	} {
		wantNew(t, x)
		wantNew(t, roomy(x))
		wantNew(t, root(x, x))
	}
	seed := uint64(161616)
	for i := range 1000 {
		x := drawnTree(&seed, 1+i%4, i%2 == 1)
		wantNew(t, x)
		wantNew(t, roomy(x))
	}
}

// R3: lists that are one in what is handed in, or parts of one, are not so in the answer.
func TestJoinSharedLists(t *testing.T) {
	attrs := []api.Attr{{Name: "a", Value: "1"}, {Name: "b", Value: "2"}, {Name: "c", Value: "3"}}
	kids := []api.Tree{text("x"), text("y"), {Kind: api.Element, Name: "in", Attrs: attrs}, text(""), text("z")}
	wantNew(t, root(
		api.Tree{Kind: api.Element, Name: "1", Attrs: attrs[:2], Kids: kids[:2]},
		api.Tree{Kind: api.Element, Name: "2", Attrs: attrs, Kids: kids},
		api.Tree{Kind: api.Element, Name: "3", Attrs: attrs[:0], Kids: kids[1:]},
		api.Tree{Kind: api.Element, Name: "4", Attrs: attrs[2:], Kids: kids[:0]},
	))
}

// R3, R4: what was answered stays, whatever is written to what was handed in, and to another answer.
func TestJoinAnswerStays(t *testing.T) {
	x := roomy(root(with(el("p", text("a"), text("b"), with(el("q"), "y", "2")), "x", "1"), text("c")))
	want := secondJoin(x)
	one, two := serial.Join(x), serial.Join(x)
	for _, l := range [][]api.Tree{one.Kids[0].Kids, one.Kids, x.Kids[0].Kids, x.Kids} {
		for i := range l {
			for k := range l[i].Attrs {
				l[i].Attrs[k] = api.Attr{Name: "spoilt", Value: "spoilt"}
			}
			l[i] = comment("spoilt")
		}
	}
	if !tree.Same(two, want) {
		t.Errorf("the answer was changed to %v", two)
	}
}
