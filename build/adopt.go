package build

import (
	"slices"

	"topiary/format"
	"topiary/stack"
)

const (
	maxAdopted = 8 // times that one end tag adopts
	maxWrapped = 3 // elements between that are opened again
)

// adopt does what the end tag of a formatting element asks for.
func (b *builder) adopt(name string) {
	if c := b.current(); c.is(name) && b.active.Place(c.id) < 0 {
		b.pop(1)
		return
	}
	for range maxAdopted {
		if !b.adoptOnce(name) {
			return
		}
	}
}

// adoptOnce ends the formatting element that came last. It tells whether what stands further out is still to be looked at.
func (b *builder) adoptOnce(name string) bool {
	e, ok := b.active.Last(name)
	if !ok {
		b.otherEnd(name)
		return false
	}
	at := b.where(e.ID)
	if at < 0 {
		b.active.Remove(e.ID)
		return false
	}
	if b.borderWithin(at) {
		return false
	}
	between := slices.IndexFunc(b.open[at+1:], special)
	if between < 0 {
		b.pop(len(b.open) - at)
		b.active.Remove(e.ID)
		return false
	}
	b.cut(e, at, at+1+between)
	return true
}

// special tells whether an element is special.
func special(n *node) bool { return stack.Is(n.self.Name, sortSpecial) }

// borderWithin tells whether an element further in than the open one at a place is a border of scope 1.
func (b *builder) borderWithin(at int) bool {
	// stack tells borders only by what is not in a scope: a name that no element has is put in the element's place.
	names := b.names()[at:]
	names[0] = noName
	return !stack.In(names, noName, inAny)
}

// cut ends e, whose element is open at at, ahead of the special element f, which is open at within: what is in f is in a new element like e's then.
func (b *builder) cut(e format.Entry, at, within int) {
	outside, f := b.open[at-1], b.open[within]
	last, m := b.wrap(e, at, within)
	last.detach()
	if inTableParts(outside) {
		last.attach(b.fosterPlace())
	} else {
		last.attach(outside.end())
	}
	fresh := b.makeElement(e.Name, e.Attrs)
	fresh.adoptKids(f)
	fresh.attach(f.end())
	m = b.forget(e.ID, m)
	b.active.Put(m, fresh.entry())
	b.shut(e.ID)
	b.open = slices.Insert(b.open, b.where(f.id)+1, fresh)
}

// wrap puts f in new elements like those between e and it that are active; the others are open no more. It tells the outermost of the new ones (f, if there is none), and the place in the active list where e's new one will stand.
func (b *builder) wrap(e format.Entry, at, within int) (last *node, m int) {
	f := b.open[within]
	last, m = f, b.active.Place(e.ID)
between:
	for i := within - 1; i > at; i-- {
		id := b.open[i].id
		if within-i > maxWrapped {
			m = b.forget(id, m)
		}
		entry, ok := b.active.At(b.active.Place(id))
		if !ok {
			b.shut(id)
			continue between
		}
		fresh := b.makeElement(entry.Name, entry.Attrs)
		b.open[i] = fresh
		b.active.Swap(id, fresh.entry())
		if last == f {
			m = b.active.Place(fresh.id) + 1
		}
		last.detach()
		last.attach(fresh.end())
		last = fresh
	}
	return last, m
}

// forget takes an entry out of the active list, if it is there; it tells where what is to stand at m stands then.
func (b *builder) forget(id, m int) int {
	at := b.active.Place(id)
	if b.active.Remove(id) && at < m {
		m--
	}
	return m
}

// otherEnd does what an end tag asks for that has no rule of its own.
func (b *builder) otherEnd(name string) {
	for _, n := range slices.Backward(b.open) {
		if n.is(name) {
			b.imply(name)
			b.pop(len(b.open) - b.where(n.id))
			return
		}
		if special(n) {
			return
		}
	}
}
