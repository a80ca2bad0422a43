package build

import (
	"slices"

	"topiary/api"
	"topiary/format"
	"topiary/runes"
	"topiary/stack"
)

// The sorts of elements, as stack numbers them.
const (
	sortSpecial = 2
	sortFormat  = 3
	sortHeading = 5
	sortBlock   = 6
	sortMarker  = 7
	sortHead    = 8
)

// The scopes, as stack numbers them.
const (
	inAny    = 1
	inList   = 2
	inButton = 3
	inTable  = 4
)

// noName is no element's name.
const noName = ""

// starts tells whether a piece is a start tag of one of these names.
func starts(t api.Token, names ...string) bool {
	return t.Kind == api.TokStart && slices.Contains(names, t.Name)
}

// ends tells whether a piece is an end tag of one of these names.
func ends(t api.Token, names ...string) bool {
	return t.Kind == api.TokEnd && slices.Contains(names, t.Name)
}

// endsBut tells whether a piece is an end tag of none of these names.
func endsBut(t api.Token, names ...string) bool {
	return t.Kind == api.TokEnd && !slices.Contains(names, t.Name)
}

// blank tells whether a piece is a text of Blanks alone.
func blank(t api.Token) bool {
	if t.Kind != api.TokText {
		return false
	}
	for i := range len(t.Text) {
		if !runes.Blank(t.Text[i]) {
			return false
		}
	}
	return true
}

// current is the innermost open element, or the Root.
func (b *builder) current() *node {
	if len(b.open) == 0 {
		return b.root()
	}
	return b.open[len(b.open)-1]
}

// outermost is the outermost open element (that is html), or the Root.
func (b *builder) outermost() *node {
	if len(b.open) == 0 {
		return b.root()
	}
	return b.open[0]
}

// names are the names of the open elements.
func (b *builder) names() []string {
	l := make([]string, len(b.open))
	for i, n := range b.open {
		l[i] = n.self.Name
	}
	return l
}

// makeElement makes an element. The attributes are to be nobody else's, as they come to stand in the answer.
func (b *builder) makeElement(name string, attrs []api.Attr) *node {
	return b.add(api.Tree{Kind: api.Element, Name: name, Attrs: attrs})
}

// inTableParts tells whether what is put in a node in foster sense stands elsewhere.
func inTableParts(n *node) bool { return n.is("table", "tbody", "tfoot", "thead", "tr") }

// here is the place where something is put now.
func (b *builder) here() place {
	if b.foster && inTableParts(b.current()) {
		return b.fosterPlace()
	}
	return b.current().end()
}

// fosterPlace is where something stands that is put in a table's parts in foster sense.
func (b *builder) fosterPlace() place {
	for _, n := range slices.Backward(b.open) {
		if n.is("table") {
			return n.ahead()
		}
	}
	return b.outermost().end()
}

// put puts a text or a comment.
func (b *builder) put(t api.Token) {
	if t.Kind == api.TokText {
		b.putText(t.Text)
		return
	}
	b.putComment(t, b.here())
}

// putComment puts a comment at a place.
func (b *builder) putComment(t api.Token, p place) {
	b.add(api.Tree{Kind: api.Comment, Text: t.Text}).attach(p)
}

// putText puts a text: behind a Text it is a part of that.
func (b *builder) putText(text string) {
	p := b.here()
	if p.parent == b.root() {
		return
	}
	if p.at > 0 {
		if ahead := p.parent.kids[p.at-1]; ahead.self.Kind == api.Text {
			ahead.text = append(ahead.text, text...)
			return
		}
	}
	n := b.add(api.Tree{Kind: api.Text})
	n.text = []byte(text)
	n.attach(p)
}

// insert makes, puts and opens an element.
func (b *builder) insert(name string, attrs []api.Attr) *node {
	n := b.makeElement(name, attrs)
	n.attach(b.here())
	b.open = append(b.open, n)
	return n
}

// insertAndLeave makes and puts an element.
func (b *builder) insertAndLeave(name string, attrs []api.Attr) {
	b.makeElement(name, attrs).attach(b.here())
}

// pop makes the n innermost elements open no more.
func (b *builder) pop(n int) { b.open = b.open[:len(b.open)-n] }

// popTo pops up to an element of one of these names, that one too.
func (b *builder) popTo(names ...string) { b.pop(stack.Until(b.names(), names...)) }

// popUpTo pops all that is further in than the innermost element of one of these names.
func (b *builder) popUpTo(names ...string) {
	if n := stack.Until(b.names(), names...); n > 0 {
		b.pop(n - 1)
	}
}

// in tells whether one of these names is in a scope.
func (b *builder) in(scope int, names ...string) bool {
	open := b.names()
	return slices.ContainsFunc(names, func(name string) bool { return stack.In(open, name, scope) })
}

// imply pops what ends by itself, up to an element of the name but.
func (b *builder) imply(but string) { b.pop(stack.Implied(b.names(), but)) }

// closeP ends a p that is open.
func (b *builder) closeP() {
	if b.in(inButton, "p") {
		b.imply("p")
		b.popTo("p")
	}
}

// where is which open element a number is, or -1.
func (b *builder) where(id int) int {
	return slices.IndexFunc(b.open, func(n *node) bool { return n.id == id })
}

// shut takes an element out of the open ones, if it is one.
func (b *builder) shut(id int) {
	b.open = slices.DeleteFunc(b.open, func(n *node) bool { return n.id == id })
}

// entry is an element's entry in the active list.
func (n *node) entry() format.Entry {
	return format.Entry{ID: n.id, Name: n.self.Name, Attrs: n.self.Attrs}
}

// rebuild opens the formatting elements again that are active, but not open.
func (b *builder) rebuild() {
	from := b.active.Len()
	for from > 0 && b.lost(from-1) {
		from--
	}
	for i := from; i < b.active.Len(); i++ {
		e, _ := b.active.At(i)
		b.active.Swap(e.ID, b.insert(e.Name, e.Attrs).entry())
	}
}

// lost tells whether an entry, and no marker, stands at a place of the active list, whose element is not open.
func (b *builder) lost(at int) bool {
	e, _ := b.active.At(at)
	return e.ID != 0 && b.where(e.ID) < 0
}

// raise sets the mode by what is open.
func (b *builder) raise() {
	for _, n := range slices.Backward(b.open) {
		if m, ok := modeWithin(n.self.Name); ok {
			b.mode = m
			return
		}
	}
	b.mode = modeBody
}
