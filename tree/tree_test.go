package tree_test

import (
	"reflect"
	"runtime/debug"
	"slices"
	"strings"
	"testing"

	"topiary/api"
	"topiary/tree"
)

// The signatures that the chapter lists.
var (
	_ func(api.Tree) bool                   = tree.Check
	_ func(string) bool                     = tree.Name
	_ func(api.Tree) int                    = tree.Size
	_ func(api.Tree) int                    = tree.Depth
	_ func(api.Tree, api.Tree) bool         = tree.Same
	_ func(api.Tree, api.Tree) int          = tree.Compare
	_ func(api.Tree, string) (string, bool) = tree.Attr
	_ func(api.Tree) int                    = tree.Slots
)

func root(kids ...api.Tree) api.Tree { return api.Tree{Kind: api.Root, Kids: kids} }

func el(name string, kids ...api.Tree) api.Tree {
	return api.Tree{Kind: api.Element, Name: name, Kids: kids}
}

func text(s string) api.Tree { return api.Tree{Kind: api.Text, Text: s} }

func comment(s string) api.Tree { return api.Tree{Kind: api.Comment, Text: s} }

func doctype(name string) api.Tree { return api.Tree{Kind: api.Doctype, Name: name} }

// with is a node with attributes: names and values, by turns.
func with(t api.Tree, l ...string) api.Tree {
	t.Attrs = nil
	for i := 0; i < len(l); i += 2 {
		t.Attrs = append(t.Attrs, api.Attr{Name: l[i], Value: l[i+1]})
	}
	return t
}

// chain is a node within n elements.
func chain(n int, t api.Tree) api.Tree {
	for range n {
		t = el("p", t)
	}
	return t
}

// copies are n nodes that are one.
func copies(n int, t api.Tree) []api.Tree { return slices.Repeat([]api.Tree{t}, n) }

// twofold is a tree of n levels in which each node has the next one twice: 2^n - 1 nodes.
func twofold(n int) api.Tree {
	t := el("p")
	for range n - 1 {
		t = el("p", t, t)
	}
	return t
}

// endless is a tree that is its own kid.
func endless() api.Tree {
	kids := []api.Tree{el("p")}
	kids[0].Kids = kids
	return root(kids...)
}

// smallStack makes calls within calls, one for each level of a deep tree, end the test.
func smallStack(t *testing.T) {
	old := debug.SetMaxStack(1 << 22)
	t.Cleanup(func() { debug.SetMaxStack(old) })
}

// veryDeep is far deeper than what may be.
const veryDeep = 1 << 17

// P5.1: Size, Depth and Slots.
func TestNumbers(t *testing.T) {
	a1 := with(el("a"), "x", "1")
	a2 := with(el("a"), "x", "1", "y", "2")
	for i, x := range []struct {
		t                  api.Tree
		size, depth, slots int
	}{
		{root(), 1, 1, 0},
		{api.Tree{}, 1, 1, 0},
		{api.Tree{Kind: -7, Name: "n", Text: "t"}, 1, 1, 0},
		{api.Tree{Kind: api.Root, Kids: []api.Tree{}, Attrs: []api.Attr{}}, 1, 1, 0},
		{text("a"), 1, 1, 0},
		{root(text("a")), 2, 2, 0}, // the chapter's example
		{root(text("a"), comment(""), doctype("html")), 4, 2, 0},
		{root(el("p", text("a")), text("b")), 4, 3, 0},
		{root(text("b"), el("p", text("a"))), 4, 3, 0},
		{root(text("b"), el("p", text("a")), text("c")), 5, 3, 0},
		{root(el("p"), el("p", el("q", el("r"))), el("p", el("q"))), 7, 4, 0},
		{root(el("p", el("q", el("r"))), el("p", el("q")), el("p")), 7, 4, 0},
		{a1, 1, 1, 1},
		{a2, 1, 1, 2},
		{root(a1, a2, el("a"), a2), 5, 2, 5},
		{root(chain(3, a2), a1), 6, 5, 3},
		{with(root(with(el("p", with(text("t"), "b", "")), "a", "", "a", "")), "c", ""), 3, 3, 4}, // on any node, be it the Root or a Text, and twice
		{api.Tree{Attrs: make([]api.Attr, 1000)}, 1, 1, 1000},
		{api.Tree{Kids: []api.Tree{{}, {Kids: []api.Tree{{}}}}}, 4, 3, 0},
		{root(copies(9999, a2)...), 10000, 2, 19998},
		{root(append(copies(9997, a1), el("p", a2))...), 10000, 3, 9999},
		{chain(999, a2), 1000, 1000, 2},
		{root(chain(998, a1)), 1000, 1000, 1},
		{root(append(copies(9001, a1), chain(997, a1))...), 10000, 999, 9002},
		{twofold(13), 8191, 13, 0},
	} {
		if got := tree.Size(x.t); got != x.size {
			t.Errorf("%d: Size %d, want %d", i, got, x.size)
		}
		if got := tree.Depth(x.t); got != x.depth {
			t.Errorf("%d: Depth %d, want %d", i, got, x.depth)
		}
		if got := tree.Slots(x.t); got != x.slots {
			t.Errorf("%d: Slots %d, want %d", i, got, x.slots)
		}
	}
}

// P5.1: Slots has no bound that the chapter names.
func TestSlotsVeryDeepAndWide(t *testing.T) {
	smallStack(t)
	a := with(el("a"), "x", "1", "y", "")
	if got := tree.Slots(chain(veryDeep, a)); got != 2 {
		t.Error("deep:", got)
	}
	if got := tree.Slots(root(copies(20000, a)...)); got != 40000 {
		t.Error("wide:", got)
	}
}

// noName are the bytes that stand in no name.
const noName = "\t\n\f \x00\"'>/=<ABCDEFGHIJKLMNOPQRSTUVWXYZ"

// P5.1: each byte by itself, at a name's beginning, in its middle, at its end.
func TestNameBytes(t *testing.T) {
	for c := range 256 {
		b := string([]byte{byte(c)})
		want := !strings.Contains(noName, b)
		full := strings.Repeat("a", api.MaxName-1)
		for _, s := range []string{b, b + "a", "a" + b, "a" + b + "a", "ab" + b + "-9", b + b, full + b, b + full, full[:9] + b + full[9:]} {
			if tree.Name(s) != want {
				t.Errorf("Name(%q) is not %t", s, want)
			}
		}
	}
}

// P5.1: how many bytes a name has.
func TestNameLengths(t *testing.T) {
	for s, want := range map[string]bool{
		"":                                 false,
		"a":                                true,
		"h1":                               true,
		"my-own_name.2:x":                  true,
		"0":                                true,
		"é":                                true,
		"\xff\x80":                         true,
		"\r":                               true,
		"\v":                               true,
		"\u00a0":                           true,
		"\u2028":                           true,
		"É":                                true,
		strings.Repeat("a", api.MaxName-1): true,
		strings.Repeat("a", api.MaxName):   true,
		strings.Repeat("a", api.MaxName+1): false,
		strings.Repeat("a", 2*api.MaxName): false,
		strings.Repeat("a", 256):           false,
		strings.Repeat("a", 1<<16+1):       false,
		strings.Repeat("é", api.MaxName/2): true,
		strings.Repeat("é", api.MaxName/2) + "a": false,
		strings.Repeat("é", api.MaxName):         false,
		strings.Repeat("\xff", api.MaxName):      true,
		strings.Repeat("\xff", api.MaxName+1):    false,
	} {
		if tree.Name(s) != want {
			t.Errorf("Name(%q) is not %t", s, want)
		}
	}
}

// roomy is a tree like t whose lists have spare room, with something in it.
func roomy(t api.Tree) api.Tree {
	attrs := append(slices.Clone(t.Attrs), api.Attr{Name: "spare", Value: "attribute"}, api.Attr{Name: "a"})
	var kids []api.Tree
	for _, k := range t.Kids {
		kids = append(kids, roomy(k))
	}
	kids = append(kids, el("spare"), text("spare"))
	t.Attrs, t.Kids = attrs[:len(t.Attrs)], kids[:len(t.Kids)]
	return t
}

// whole is a copy of a tree with all that is in its lists' room.
func whole(t api.Tree) api.Tree {
	t.Attrs = slices.Clone(t.Attrs[:cap(t.Attrs)])
	kids := []api.Tree{}
	for _, k := range t.Kids[:cap(t.Kids)] {
		kids = append(kids, whole(k))
	}
	t.Kids = kids
	return t
}

// R3: what is handed in is not changed, its lists' spare room neither; R4: asked again, the answers are the same.
func TestHandedInStays(t *testing.T) {
	for i, a := range sample() {
		for k, b := range []api.Tree{root(el("p", text("x"), with(el("q"), "b", "2", "a", "1"))), a} {
			a, b := roomy(a), roomy(b)
			wasA, wasB := whole(a), whole(b)
			first := answers(a, b)
			again := answers(a, b)
			if first != again {
				t.Errorf("%d, %d: first %v, then %v", i, k, first, again)
			}
			if !reflect.DeepEqual(whole(a), wasA) || !reflect.DeepEqual(whole(b), wasB) {
				t.Errorf("%d, %d: what was handed in is another one", i, k)
			}
		}
	}
}

// told is what all functions answer.
type told struct {
	size, depth, slots, compare int
	check, same, name, ok       bool
	value                       string
}

func answers(a, b api.Tree) told {
	x := told{size: tree.Size(a), depth: tree.Depth(a), slots: tree.Slots(a), compare: tree.Compare(a, b), check: tree.Check(a), same: tree.Same(a, b), name: tree.Name(a.Name)}
	x.value, x.ok = tree.Attr(a, "a")
	return x
}
