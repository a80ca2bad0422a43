package walk_test

import (
	"runtime"
	"runtime/debug"
	"slices"
	"strings"
	"testing"

	"topiary/api"
	"topiary/tree"
	"topiary/walk"
)

// texts are n texts.
func texts(n int) []api.Tree { return slices.Repeat([]api.Tree{text("t")}, n) }

// chain is a node within n elements.
func chain(n int, t api.Tree) api.Tree {
	for range n {
		t = el("p", t)
	}
	return t
}

// ladder is a tree of 10,000 nodes that is 1,000 deep: on each level but the last one an element stands between texts, four ahead of it and five behind, and 14 behind the first one.
func ladder() api.Tree {
	t := el("last")
	for level := 998; level >= 0; level-- {
		kids := append(append(texts(4), t), texts(5)...)
		if level == 0 {
			kids = append(kids, texts(9)...)
		}
		t = el("p", kids...)
	}
	return t
}

// wide is a Root with n - 1 kids.
func wide(n int) api.Tree { return root(texts(n - 1)...) }

// tally is what a plain recursion counts of a tree.
type tally struct {
	items []walk.Item
	post  []int
	text  strings.Builder
}

// count counts a node with all in it.
func (c *tally) count(t api.Tree, parent, depth, place int) walk.Item {
	id := len(c.items)
	kids := t.Kids
	t.Kids = nil
	i := item(parent, 1, depth, 1, place, t)
	c.items = append(c.items, i)
	if t.Kind == api.Text {
		c.text.WriteString(t.Text)
	}
	for place, k := range kids {
		kid := c.count(k, id, depth+1, place)
		i.Size += kid.Size
		i.Height = max(i.Height, kid.Height+1)
	}
	c.items[id] = i
	c.post = append(c.post, id)
	return i
}

// follow is the node that places lead to.
func follow(t api.Tree, path []int) api.Tree {
	for _, place := range path {
		t = t.Kids[place]
	}
	return t
}

// pathOf are the places that lead to a number, by a list of Items.
func pathOf(l []walk.Item, id int) []int {
	var path []int
	for ; id > 0; id = l[id].Parent {
		path = append(path, l[id].Place)
	}
	slices.Reverse(path)
	return path
}

// asTally holds all that the functions say of a big tree against what a recursion counts; of some numbers, where there is one for each.
func asTally(t *testing.T, x api.Tree, size, depth int) {
	t.Helper()
	if tree.Size(x) != size || tree.Depth(x) != depth {
		t.Fatal("the test's own tree:", tree.Size(x), tree.Depth(x))
	}
	var c tally
	c.count(x, -1, 0, 0)
	sayItems(t, x, c.items)
	if c.items[0].Size != size || c.items[0].Height != depth {
		t.Error("of all:", c.items[0].Size, c.items[0].Height)
	}
	if !slices.Equal(walk.Post(x), c.post) {
		t.Error("Post is another one")
	}
	if walk.Text(x) != c.text.String() {
		t.Error("Text is another one")
	}
	l := walk.Flat(x)
	for _, id := range []int{0, 1, 2, 5, size / 3, size/2 - 1, size / 2, size/2 + 1, size - 5, size - 2, size - 1} {
		path := pathOf(c.items, id)
		sayNode(t, x, id, follow(x, path), path)
		for of := range l {
			if walk.Within(l, id, of) != c.inside(id, of) || walk.Within(l, of, id) != c.inside(of, id) {
				t.Fatalf("Within of %d and %d", id, of)
			}
		}
	}
	noNode(t, x, size)
}

// inside tells whether a number is another one or in it, up its parents.
func (c *tally) inside(id, of int) bool {
	for id > of {
		id = c.items[id].Parent
	}
	return id == of
}

// P7.1, P7.2: trees as big as are asked, deep ones and wide ones.
func TestBig(t *testing.T) {
	const most, deepest = 10000, 1000
	asTally(t, ladder(), most, deepest)
	asTally(t, wide(most), most, 2)
	asTally(t, chain(deepest-1, text("t")), deepest, deepest)
	asTally(t, root(append(texts(most-deepest), chain(deepest-2, text("last")))...), most, deepest)
	asTally(t, root(append([]api.Tree{chain(deepest-2, text("first"))}, texts(most-deepest)...)...), most, deepest)
	asTally(t, chain(deepest-2, el("p", texts(most-deepest+1)...)), most, deepest)
	asTally(t, root(slices.Repeat([]api.Tree{chain(98, text("t"))}, 101)...), most, 100)
}

// P7.1: the ladder's rungs, as they can be told by numbers alone.
func TestLadder(t *testing.T) {
	x := ladder()
	l := walk.Flat(x)
	post := walk.Post(x)
	for level := 1; level < 1000; level++ {
		id := 5 * level
		want := [5]int{id - 5, 9991 - 10*level, level, 1000 - level, 4}
		if got := [5]int{l[id].Parent, l[id].Size, l[id].Depth, l[id].Height, l[id].Place}; got != want {
			t.Fatalf("level %d: %v, want %v", level, got, want)
		}
		if at := id + l[id].Size - 1 - level; post[at] != id {
			t.Fatalf("level %d: Post has %d at %d", level, post[at], at)
		}
	}
	if got := walk.Path(x, 4995); !slices.Equal(got, slices.Repeat([]int{4}, 999)) {
		t.Error("Path of the last level:", got)
	}
	if got := walk.Text(x); got != strings.Repeat("t", 9000) {
		t.Error("Text:", len(got))
	}
}

// stackOf is by how many bytes the stacks grow in a call.
func stackOf(call func()) int {
	defer debug.SetGCPercent(debug.SetGCPercent(-1)) // else a stack could shrink again ahead of the second look
	grown := make(chan int)
	go func() {
		var was, now runtime.MemStats
		runtime.ReadMemStats(&was)
		call()
		runtime.ReadMemStats(&now)
		grown <- int(now.StackInuse) - int(was.StackInuse)
	}()
	return <-grown
}

// P7.2: a stack of their own: the calls' one does not grow with the tree's depth. It is deeper here than is asked, so that it would be seen.
func TestOwnStack(t *testing.T) {
	const deep = 1 << 17
	x := chain(deep, text("t"))
	for name, call := range map[string]func() bool{
		"Flat": func() bool { return len(walk.Flat(x)) == deep+1 },
		"Post": func() bool { return len(walk.Post(x)) == deep+1 },
		"Sub":  func() bool { s, ok := walk.Sub(x, 1); return ok && len(s.Kids) == 1 },
		"Path": func() bool { return len(walk.Path(x, deep)) == deep },
		"Text": func() bool { return walk.Text(x) == "t" },
	} {
		if grown := stackOf(func() {
			if !call() {
				t.Errorf("%s says another thing", name)
			}
		}); grown > 1<<20 {
			t.Errorf("%s: the stack grew by %d bytes", name, grown)
		}
	}
}
