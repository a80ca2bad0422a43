package dom

import (
	"topiary/api"
	"topiary/tree"
)

// greatest is the greatest number that a new node may have.
const greatest = 1 << 20

// Insert puts a new node in.
func (d *Dom) Insert(id, parent, at int, n api.Tree) api.Errno {
	if e := d.insertError(id, parent, at, n); e != api.OK {
		return e
	}
	d.add(id, n)
	d.attach(id, parent, at)
	return api.OK
}

// insertError is why a new node is not put in.
func (d *Dom) insertError(id, parent, at int, n api.Tree) api.Errno {
	switch {
	case !d.free(id) || !mayBeNew(n):
		return api.ErrArg
	case d.Len() >= api.MaxNodes:
		return api.ErrBig
	case !d.Has(parent):
		return api.ErrNone
	case !mayHold(d.node(parent).self.Kind, n.Kind):
		return api.ErrKind
	case at < 0 || at > len(d.node(parent).kids):
		return api.ErrPlace
	case d.depth(parent)+1 > api.MaxDepth:
		return api.ErrBig
	}
	return api.OK
}

// free tells whether a new node may have a number.
func (d *Dom) free(id int) bool { return !d.Has(id) && id >= 1 && id <= greatest }

// mayBeNew tells whether a node may be put in, wherever that is.
func mayBeNew(n api.Tree) bool {
	if len(n.Kids) > 0 || len(n.Attrs) > 0 {
		return false
	}
	return tree.Check(api.Tree{Kind: api.Root, Kids: []api.Tree{n}})
}

// mayHold tells whether a node of one kind may have a kid of another one.
func mayHold(parent, kid int) bool {
	return parent == api.Root || parent == api.Element && kid != api.Doctype
}

// attach makes a node that is nobody's kid that of a parent, at a place.
func (d *Dom) attach(id, parent, at int) {
	p := d.places[parent]
	d.arena[p].kids = putIn(d.arena[p].kids, at, id)
	d.arena[d.places[id]].parent = parent
}

// detach takes a node out of its parent's kids; it is to be attached again, or removed.
func (d *Dom) detach(id int) {
	p := d.places[d.Parent(id)]
	d.arena[p].kids = takeOut(d.arena[p].kids, d.Place(id))
}

// putIn is a list with x at a place, and what stood from there on one further.
func putIn[T any](l []T, at int, x T) []T {
	l = append(l, x)
	copy(l[at+1:], l[at:])
	l[at] = x
	return l
}

// takeOut is a list without what stood at a place.
func takeOut[T any](l []T, at int) []T {
	copy(l[at:], l[at+1:])
	last := len(l) - 1
	clear(l[last:]) // else texts that are gone would be kept in the spare room
	return l[:last]
}

// Delete takes a node out.
func (d *Dom) Delete(id int) api.Errno {
	switch {
	case !d.Has(id):
		return api.ErrNone
	case id == root:
		return api.ErrKind
	case len(d.node(id).kids) > 0:
		return api.ErrMore
	}
	d.detach(id)
	d.remove(id)
	return api.OK
}

// remove takes a node out of the arena. The last one fills the gap: the arena is never greater than the tree has been.
func (d *Dom) remove(id int) {
	last := len(d.arena) - 1
	gap := d.places[id]
	d.arena[gap] = d.arena[last]
	d.places[d.arena[gap].id] = gap
	delete(d.places, id)
	d.arena[last] = node{}
	d.arena = d.arena[:last]
}

// Move puts a node, with all in it, elsewhere.
func (d *Dom) Move(id, parent, at int) api.Errno {
	if e := d.moveError(id, parent, at); e != api.OK {
		return e
	}
	d.detach(id)
	d.attach(id, parent, at)
	return api.OK
}

// moveError is why a node is not put elsewhere.
func (d *Dom) moveError(id, parent, at int) api.Errno {
	switch {
	case !d.Has(id) || !d.Has(parent):
		return api.ErrNone
	case id == root || !mayHold(d.node(parent).self.Kind, d.node(id).self.Kind):
		return api.ErrKind
	case d.Within(id, parent):
		return api.ErrCycle
	case at < 0 || at > d.others(id, parent):
		return api.ErrPlace
	case d.depth(parent)+d.height(id) > api.MaxDepth:
		return api.ErrBig
	}
	return api.OK
}

// others is how many kids a parent has without the node id.
func (d *Dom) others(id, parent int) int {
	n := len(d.node(parent).kids)
	if d.Parent(id) == parent {
		n--
	}
	return n
}

// Set sets an attribute.
func (d *Dom) Set(id int, name, value string) api.Errno {
	if e := d.kindError(id, api.Element); e != api.OK {
		return e
	}
	if !tree.Name(name) {
		return api.ErrAttr
	}
	attrs := d.node(id).self.Attrs
	at, ok := find(attrs, name)
	if len(value) > api.MaxText || !ok && len(attrs) >= api.MaxAttrs {
		return api.ErrBig
	}
	if ok {
		attrs[at].Value = value
		return api.OK
	}
	d.arena[d.places[id]].self.Attrs = putIn(attrs, at, api.Attr{Name: name, Value: value})
	return api.OK
}

// Unset takes an attribute away.
func (d *Dom) Unset(id int, name string) api.Errno {
	if e := d.kindError(id, api.Element); e != api.OK {
		return e
	}
	attrs := d.node(id).self.Attrs
	at, ok := find(attrs, name)
	if !ok {
		return api.ErrAttr
	}
	d.arena[d.places[id]].self.Attrs = takeOut(attrs, at)
	return api.OK
}

// find is the place at which an attribute of a name stands, or would stand, and whether it does.
func find(l []api.Attr, name string) (int, bool) {
	at := 0
	for at < len(l) && l[at].Name < name {
		at++
	}
	return at, at < len(l) && l[at].Name == name
}

// Text sets a text.
func (d *Dom) Text(id int, text string) api.Errno {
	if e := d.kindError(id, api.Text, api.Comment); e != api.OK {
		return e
	}
	if text == "" && d.node(id).self.Kind == api.Text {
		return api.ErrArg
	}
	if len(text) > api.MaxText {
		return api.ErrBig
	}
	d.arena[d.places[id]].self.Text = text
	return api.OK
}

// kindError is why a number is not one of a node of these kinds.
func (d *Dom) kindError(id int, kinds ...int) api.Errno {
	if !d.Has(id) {
		return api.ErrNone
	}
	for _, k := range kinds {
		if d.node(id).self.Kind == k {
			return api.OK
		}
	}
	return api.ErrKind
}
