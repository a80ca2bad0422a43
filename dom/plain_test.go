package dom_test

import (
	"slices"
	"testing"

	"topiary/api"
	"topiary/dom"
	"topiary/tree"
)

// row is a node in the second, plain way: its number, how deep it is, itself without Kids.
type row struct {
	id, depth int
	node      api.Tree
}

// rows are a tree's nodes in their order. Who is whose kid is told by the depths alone. Each operation makes new rows.
type rows []row

// numbered are the rows of a tree, numbered from 0 on.
func numbered(t api.Tree) rows {
	var l rows
	var take func(api.Tree, int)
	take = func(t api.Tree, depth int) {
		kids := t.Kids
		t.Kids = nil
		t.Attrs = slices.Clone(t.Attrs)
		l = append(l, row{len(l), depth, t})
		for _, k := range kids {
			take(k, depth+1)
		}
	}
	take(t, 1)
	return l
}

// index is at which row a number stands, or -1.
func (l rows) index(id int) int {
	return slices.IndexFunc(l, func(r row) bool { return r.id == id })
}

// end is the row behind all that is in the row i.
func (l rows) end(i int) int {
	for k := i + 1; k < len(l); k++ {
		if l[k].depth <= l[i].depth {
			return k
		}
	}
	return len(l)
}

// kids are the rows of the kids of the row i.
func (l rows) kids(i int) []int {
	var at []int
	for k := i + 1; k < l.end(i); k++ {
		if l[k].depth == l[i].depth+1 {
			at = append(at, k)
		}
	}
	return at
}

// parent is the row of the parent of the row i, or -1.
func (l rows) parent(i int) int {
	for k := i - 1; k >= 0; k-- {
		if l[k].depth < l[i].depth {
			return k
		}
	}
	return -1
}

// tree is the tree of the row i.
func (l rows) tree(i int) api.Tree {
	t := l[i].node
	for _, k := range l.kids(i) {
		t.Kids = append(t.Kids, l.tree(k))
	}
	return t
}

// gap is the row ahead of which a kid of the row i would stand at a place.
func (l rows) gap(i, at int) int {
	kids := l.kids(i)
	if at == len(kids) {
		return l.end(i)
	}
	return kids[at]
}

// without are the rows but those from i up to, not with, k.
func (l rows) without(i, k int) rows {
	return slices.Concat(l[:i], l[k:])
}

// between are the rows with more rows ahead of the row i.
func (l rows) between(i int, more ...row) rows {
	return slices.Concat(l[:i], more, l[i:])
}

// changed are the rows with another node at the row i.
func (l rows) changed(i int, n api.Tree) rows {
	l = slices.Clone(l)
	l[i].node = n
	return l
}

// holds tells whether the row i is the Root, or an Element and the kind of a kid is no Doctype.
func (l rows) holds(i, kind int) bool {
	switch l[i].node.Kind {
	case api.Root:
		return true
	case api.Element:
		return kind != api.Doctype
	}
	return false
}

func (l rows) insert(id, parent, at int, n api.Tree) (rows, api.Errno) {
	if l.index(id) != -1 || id <= 0 || id > 1048576 {
		return l, api.ErrArg
	}
	if len(n.Kids) != 0 || len(n.Attrs) != 0 || n.Kind == api.Root || !tree.Check(root(n)) {
		return l, api.ErrArg
	}
	if len(l) == 300 {
		return l, api.ErrBig
	}
	i := l.index(parent)
	if i == -1 {
		return l, api.ErrNone
	}
	if !l.holds(i, n.Kind) {
		return l, api.ErrKind
	}
	if at < 0 || at > len(l.kids(i)) {
		return l, api.ErrPlace
	}
	if l[i].depth == 60 {
		return l, api.ErrBig
	}
	return l.between(l.gap(i, at), row{id, l[i].depth + 1, n}), api.OK
}

func (l rows) delete(id int) (rows, api.Errno) {
	i := l.index(id)
	if i == -1 {
		return l, api.ErrNone
	}
	if i == 0 {
		return l, api.ErrKind
	}
	if l.end(i) != i+1 {
		return l, api.ErrMore
	}
	return l.without(i, i+1), api.OK
}

func (l rows) move(id, parent, at int) (rows, api.Errno) {
	i, p := l.index(id), l.index(parent)
	if i == -1 || p == -1 {
		return l, api.ErrNone
	}
	if i == 0 || !l.holds(p, l[i].node.Kind) {
		return l, api.ErrKind
	}
	end := l.end(i)
	if i <= p && p < end {
		return l, api.ErrCycle
	}
	taken, rest := slices.Clone(l[i:end]), l.without(i, end)
	p = rest.index(parent)
	if at < 0 || at > len(rest.kids(p)) {
		return l, api.ErrPlace
	}
	by := rest[p].depth + 1 - taken[0].depth
	for k := range taken {
		taken[k].depth += by
		if taken[k].depth > 60 {
			return l, api.ErrBig
		}
	}
	return rest.between(rest.gap(p, at), taken...), api.OK
}

func (l rows) set(id int, name, value string) (rows, api.Errno) {
	i := l.index(id)
	if i == -1 {
		return l, api.ErrNone
	}
	n := l[i].node
	if n.Kind != api.Element {
		return l, api.ErrKind
	}
	if !tree.Name(name) {
		return l, api.ErrAttr
	}
	if len(value) > 4096 {
		return l, api.ErrBig
	}
	others := slices.DeleteFunc(slices.Clone(n.Attrs), func(a api.Attr) bool { return a.Name == name })
	if len(others) == 12 {
		return l, api.ErrBig
	}
	n.Attrs = append(others, api.Attr{Name: name, Value: value})
	slices.SortFunc(n.Attrs, func(a, b api.Attr) int { return slices.Compare([]byte(a.Name), []byte(b.Name)) })
	return l.changed(i, n), api.OK
}

func (l rows) unset(id int, name string) (rows, api.Errno) {
	i := l.index(id)
	if i == -1 {
		return l, api.ErrNone
	}
	n := l[i].node
	if n.Kind != api.Element {
		return l, api.ErrKind
	}
	was := len(n.Attrs)
	n.Attrs = slices.DeleteFunc(slices.Clone(n.Attrs), func(a api.Attr) bool { return a.Name == name })
	if len(n.Attrs) == was {
		return l, api.ErrAttr
	}
	return l.changed(i, n), api.OK
}

func (l rows) text(id int, s string) (rows, api.Errno) {
	i := l.index(id)
	if i == -1 {
		return l, api.ErrNone
	}
	n := l[i].node
	if n.Kind != api.Text && n.Kind != api.Comment {
		return l, api.ErrKind
	}
	if n.Kind == api.Text && len(s) == 0 {
		return l, api.ErrArg
	}
	if len(s) > 4096 {
		return l, api.ErrBig
	}
	n.Text = s
	return l.changed(i, n), api.OK
}

// call is a call of a turning function: its name, and what it takes.
type call struct {
	does           string
	id, parent, at int
	node           api.Tree
	name, value    string
}

// onDom does a call.
func (c call) onDom(d *dom.Dom) api.Errno {
	switch c.does {
	case "Insert":
		return d.Insert(c.id, c.parent, c.at, c.node)
	case "Delete":
		return d.Delete(c.id)
	case "Move":
		return d.Move(c.id, c.parent, c.at)
	case "Set":
		return d.Set(c.id, c.name, c.value)
	case "Unset":
		return d.Unset(c.id, c.name)
	case "Text":
		return d.Text(c.id, c.value)
	}
	panic(c.does)
}

// onRows does a call in the second, plain way.
func (c call) onRows(l rows) (rows, api.Errno) {
	switch c.does {
	case "Insert":
		return l.insert(c.id, c.parent, c.at, c.node)
	case "Delete":
		return l.delete(c.id)
	case "Move":
		return l.move(c.id, c.parent, c.at)
	case "Set":
		return l.set(c.id, c.name, c.value)
	case "Unset":
		return l.unset(c.id, c.name)
	case "Text":
		return l.text(c.id, c.value)
	}
	panic(c.does)
}

// want is what the asking functions are to say of the row i.
func (l rows) want(i int) wantNode {
	w := wantNode{node: l[i].node, parent: -1, place: -1}
	for _, k := range l.kids(i) {
		w.kids = append(w.kids, l[k].id)
	}
	if p := l.parent(i); p != -1 {
		w.parent = l[p].id
		w.place = slices.Index(l.kids(p), i)
	}
	return w
}

// mirrored holds all that the asking functions say, but Within, against the rows.
func mirrored(t *testing.T, d *dom.Dom, l rows) {
	t.Helper()
	if d.Len() != len(l) {
		t.Errorf("Len: %d, want %d", d.Len(), len(l))
	}
	for i, r := range l {
		sayOf(t, d, r.id, l.want(i))
	}
	for _, id := range append(strange, 1, 2, 3) {
		if l.index(id) == -1 {
			notThere(t, d, id)
		}
	}
	x := d.Tree()
	if !tree.Same(x, l.tree(0)) {
		t.Errorf("Tree: %v, want %v", x, l.tree(0))
	}
	if !tree.Check(x) { // P6.3
		t.Error("a tree that may not be:", x)
	}
}

// mirroredWithin holds Within against the rows.
func mirroredWithin(t *testing.T, d *dom.Dom, l rows) {
	t.Helper()
	for i, a := range l {
		for k, b := range l {
			if got := d.Within(a.id, b.id); got != (i <= k && k < l.end(i)) {
				t.Errorf("Within(%d, %d) is %t", a.id, b.id, got)
			}
		}
	}
}

// draws are numbers that look drawn, and are the same ones each time.
type draws uint64

// below is a number from 0 to n - 1.
func (s *draws) below(n int) int {
	*s = *s*6364136223846793005 + 1442695040888963407
	return int(*s>>33) % n
}

// one is one of a list.
func one[T any](s *draws, l ...T) T { return l[s.below(len(l))] }

// number is mostly one that is there, and at times any.
func (s *draws) number(l rows) int {
	if s.below(16) == 0 {
		return one(s, strange...)
	}
	return one(s, l...).id
}

// holder is mostly one of the Root or an Element, and often of the deepest one.
func (s *draws) holder(l rows) int {
	if s.below(8) == 0 {
		return s.number(l)
	}
	var may rows
	for _, r := range l {
		if r.node.Kind == api.Root || r.node.Kind == api.Element {
			may = append(may, r)
		}
	}
	if s.below(4) == 0 {
		return slices.MaxFunc(may, func(a, b row) int { return a.depth - b.depth }).id
	}
	return one(s, may...).id
}

// free is mostly a number that is not there, of a few, so that what was deleted is put in again.
func (s *draws) free(l rows) int {
	for range 20 {
		if id := 1 + s.below(2*len(l)+20); l.index(id) == -1 {
			return id
		}
	}
	return s.number(l)
}

// place is mostly one among the kids of a number, and at times one beside them.
func (s *draws) place(l rows, parent int) int {
	i := l.index(parent)
	if i == -1 {
		return s.below(3)
	}
	last := len(l.kids(i))
	if s.below(6) == 0 {
		return one(s, -1, last+1)
	}
	return s.below(last + 1)
}

// call is any call.
func (s *draws) call(l rows) call {
	c := call{does: one(s, "Insert", "Insert", "Delete", "Move", "Move", "Set", "Set", "Unset", "Text"), id: s.number(l), parent: s.holder(l)}
	if c.does == "Insert" {
		c.id = s.free(l)
	}
	c.at = s.place(l, c.parent)
	c.node = one(s, el("p"), el("q"), el("r"), text("t"), text("u"), comment(""), comment("c"), doctype("d"))
	if s.below(8) == 0 {
		c.node = one(s, el("P"), text(""), root(), el("p", text("k")), with(el("p"), "a", ""))
	}
	c.name = one(s, "", "A", "a", "b", "c", "d", "e", "f", "g", "h", "i", "j", "k", "l", "m", "aa", "\xff")
	c.value = one(s, "", "v", "w", "value", long(api.MaxText), long(api.MaxText+1))
	return c
}

// starts are trees to begin with: an empty one, a small one, and some at each limit.
func starts() []api.Tree {
	return []api.Tree{
		root(),
		page(),
		root(chain(api.MaxDepth-4, el("a", text("x"), el("b"))), el("c", el("d", el("e")))),
		root(chain(api.MaxDepth-2, text("x")), chain(api.MaxDepth-10, el("a")), chain(api.MaxDepth-20, el("b", text("y")))),
		root(append(copies(api.MaxNodes-12, text("x")), page().Kids...)...),
		root(with(el("a", with(el("b"), many(api.MaxAttrs)...)), many(api.MaxAttrs-1)...), with(el("c"), "b", "1", "e", "2")),
	}
}

// outcome is how a call of a function ended.
type outcome struct {
	does string
	e    api.Errno
}

// outcomes are all ways in which the chapter says that calls end.
func outcomes() []outcome {
	var l []outcome
	for does, ends := range map[string][]api.Errno{
		"Insert": {api.OK, api.ErrArg, api.ErrBig, api.ErrNone, api.ErrKind, api.ErrPlace},
		"Delete": {api.OK, api.ErrNone, api.ErrKind, api.ErrMore},
		"Move":   {api.OK, api.ErrNone, api.ErrKind, api.ErrCycle, api.ErrPlace, api.ErrBig},
		"Set":    {api.OK, api.ErrNone, api.ErrKind, api.ErrAttr, api.ErrBig},
		"Unset":  {api.OK, api.ErrNone, api.ErrKind, api.ErrAttr},
		"Text":   {api.OK, api.ErrNone, api.ErrKind, api.ErrArg, api.ErrBig},
	} {
		for _, e := range ends {
			l = append(l, outcome{does, e})
		}
	}
	return l
}

// P6.2, P6.3: some hundreds of drawn operations, from several trees on, as the second way does them.
func TestDrawn(t *testing.T) {
	met := map[outcome]int{}
	for n, x := range starts() {
		for seed := range 4 {
			s := draws(100*n + seed)
			d, l := made(t, x), numbered(x)
			for i := range 400 {
				c := s.call(l)
				next, want := c.onRows(l)
				got := c.onDom(d)
				met[outcome{c.does, want}]++
				if got != want {
					t.Fatalf("start %d, seed %d, %d: %+v: %v, want %v", n, seed, i, c, got, want)
				}
				l = next
				if len(l) < 40 || i%20 == 0 {
					mirrored(t, d, l)
				}
				if i%50 == 0 {
					mirroredWithin(t, d, l)
				}
				if t.Failed() {
					t.Fatalf("start %d, seed %d, %d: behind %+v", n, seed, i, c)
				}
			}
		}
	}
	for _, o := range outcomes() {
		if met[o] < 10 {
			t.Errorf("the test's own draws: %s ended with %v only %d times", o.does, o.e, met[o])
		}
	}
}

// P6.2: on one tree, all calls of many numbers, places, nodes, names and texts, each on a Dom of its own, as the second way does them: whatever errors apply together, the first one is told, and nothing turned.
func TestAllCalls(t *testing.T) {
	x := root(doctype("d"), with(el("a", text("x"), el("b", el("c"))), "a", "1"), comment("c"))
	ids := []int{-1, 0, 1, 2, 3, 4, 5, 6, 7, 1 << 20, 1<<20 + 1}
	var calls []call
	for _, id := range ids {
		calls = append(calls, call{does: "Delete", id: id})
		for _, parent := range ids {
			for at := -1; at < 5; at++ {
				calls = append(calls, call{does: "Move", id: id, parent: parent, at: at})
				for _, n := range []api.Tree{el("n"), text("n"), comment(""), doctype(""), {}, root(), text(""), el("n", text("n")), with(el("n"), "a", "")} {
					calls = append(calls, call{does: "Insert", id: id, parent: parent, at: at, node: n})
				}
			}
		}
		for _, name := range []string{"", "a", "A", "b", "\xff"} {
			calls = append(calls, call{does: "Unset", id: id, name: name})
			for _, value := range []string{"", "v", long(api.MaxText), long(api.MaxText + 1)} {
				calls = append(calls, call{does: "Set", id: id, name: name, value: value}, call{does: "Text", id: id, value: value})
			}
		}
	}
	for _, c := range calls {
		d := made(t, x)
		l, want := c.onRows(numbered(x))
		if got := c.onDom(d); got != want {
			t.Errorf("%+v: %v, want %v", c, got, want)
		}
		mirrored(t, d, l)
		if t.Failed() {
			t.Fatalf("%+v", c)
		}
	}
}
