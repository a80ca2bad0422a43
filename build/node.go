package build

import (
	"slices"

	"topiary/api"
	"topiary/tree"
)

// node is a node of the tree that is being made; its number is its place in the arena.
type node struct {
	id     int
	self   api.Tree // without Kids, and without a Text's Text
	text   []byte   // a Text's: it grows piece by piece
	parent *node
	kids   []*node
}

// place is where a node is put: ahead of the kid of a parent that stands at at, or behind all of them.
type place struct {
	parent *node
	at     int
}

// end is the place behind all kids of a node.
func (n *node) end() place { return place{n, len(n.kids)} }

// ahead is the place just ahead of a node that has a parent.
func (n *node) ahead() place { return place{n.parent, slices.Index(n.parent.kids, n)} }

// is tells whether a node is an element of one of these names.
func (n *node) is(names ...string) bool {
	return n.self.Kind == api.Element && slices.Contains(names, n.self.Name)
}

// whole is a node with all in it.
func (n *node) whole() api.Tree {
	t := n.self
	if t.Kind == api.Text {
		t.Text = string(n.text)
	}
	for _, k := range n.kids {
		t.Kids = append(t.Kids, k.whole())
	}
	return t
}

// add makes a node. It stands nowhere yet.
func (b *builder) add(self api.Tree) *node {
	n := &node{id: len(b.arena), self: self}
	b.arena = append(b.arena, n)
	return n
}

// root is the Root.
func (b *builder) root() *node { return b.arena[0] }

// attach puts a node that stands nowhere at a place.
func (n *node) attach(p place) {
	n.parent = p.parent
	p.parent.kids = slices.Insert(p.parent.kids, p.at, n)
}

// detach takes a node from where it is; a new one is nowhere yet.
func (n *node) detach() {
	if n.parent == nil {
		return
	}
	p := n.ahead()
	p.parent.kids = slices.Delete(p.parent.kids, p.at, p.at+1)
	n.parent = nil
}

// adoptKids makes all kids of another node the kids of this one, which has none.
func (n *node) adoptKids(from *node) {
	n.kids, from.kids = from.kids, nil
	for _, k := range n.kids {
		k.parent = n
	}
}

// addAttrs gives an element the attributes whose names it has not, each in its place in the order of names.
func (n *node) addAttrs(l []api.Attr) {
	for _, a := range l {
		if _, has := tree.Attr(n.self, a.Name); has {
			continue
		}
		at := slices.IndexFunc(n.self.Attrs, func(x api.Attr) bool { return x.Name > a.Name })
		if at < 0 {
			at = len(n.self.Attrs)
		}
		n.self.Attrs = slices.Insert(n.self.Attrs, at, a)
	}
}
