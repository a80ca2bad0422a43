package build

import (
	"slices"

	"topiary/api"
	"topiary/stack"
)

// inBody are the rules in the body.
func (b *builder) inBody(t api.Token) bool {
	switch t.Kind {
	case api.TokText:
		b.rebuild()
		fallthrough
	case api.TokComment:
		b.put(t)
	case api.TokStart:
		b.startInBody(t)
	case api.TokEnd:
		return b.endInBody(t)
	}
	return false
}

// startInBody are the rules for a start tag: those of the names that have one of their own.
func (b *builder) startInBody(t api.Token) {
	switch t.Name {
	case "html":
		b.outermost().addAttrs(t.Attrs)
	case "body":
		if len(b.open) > 1 && b.open[1].is("body") {
			b.open[1].addAttrs(t.Attrs)
		}
	case "frameset", "caption", "col", "colgroup", "frame", "head", "tbody", "td", "tfoot", "th", "thead", "tr":
	case "li":
		b.endItem("li")
		b.startBlock(t)
	case "dd", "dt":
		b.endItem("dd", "dt")
		b.startBlock(t)
	case "p", "listing", "plaintext":
		b.startBlock(t)
	case "table":
		b.startBlock(t)
		b.mode = modeTable
	case "a":
		b.endLink()
		b.startFormat(t)
	case "nobr":
		b.endNobr()
		b.startFormat(t)
	case "image":
		t.Name = "img"
		fallthrough
	case "area", "br", "embed", "img", "input", "wbr":
		b.rebuild()
		b.insertAndLeave(t.Name, t.Attrs)
	case "hr":
		b.closeP()
		fallthrough
	case "param", "source", "track":
		b.insertAndLeave(t.Name, t.Attrs)
	case "rp", "rt":
		if b.in(inAny, "ruby") {
			b.imply(noName)
		}
		fallthrough
	case "textarea", "iframe", "noembed":
		b.insert(t.Name, t.Attrs)
	default:
		b.startOfSort(t)
	}
}

// startOfSort are the rules for all other start tags, most of them by their sorts.
func (b *builder) startOfSort(t api.Token) {
	switch {
	case stack.Is(t.Name, sortHead):
		b.inHead(t)
	case stack.Is(t.Name, sortBlock):
		b.startBlock(t)
	case stack.Is(t.Name, sortHeading):
		b.closeP()
		if stack.Is(b.current().self.Name, sortHeading) {
			b.pop(1)
		}
		b.insert(t.Name, t.Attrs)
	case stack.Is(t.Name, sortFormat):
		b.startFormat(t)
	case stack.Is(t.Name, sortMarker):
		b.rebuild()
		b.insert(t.Name, t.Attrs)
		b.active.Mark()
	default:
		b.endAhead(t.Name)
		b.rebuild()
		b.insert(t.Name, t.Attrs)
	}
}

// endAhead ends what is open and ends ahead of a start tag behind which formatting elements are opened again.
func (b *builder) endAhead(name string) {
	switch name {
	case "button":
		if b.in(inAny, "button") {
			b.imply(noName)
			b.popTo("button")
		}
	case "option":
		if b.current().is("option") {
			b.pop(1)
		}
	case "xmp":
		b.closeP()
	}
}

// startBlock ends a p and begins an element.
func (b *builder) startBlock(t api.Token) {
	b.closeP()
	b.insert(t.Name, t.Attrs)
}

// startFormat begins a formatting element.
func (b *builder) startFormat(t api.Token) {
	b.rebuild()
	b.active.Push(b.insert(t.Name, t.Attrs).entry())
}

// endItem ends an item of a list that is open and has one of these names.
func (b *builder) endItem(names ...string) {
open:
	for _, n := range slices.Backward(b.open) {
		switch {
		case n.is(names...):
			b.imply(n.self.Name)
			b.popTo(n.self.Name)
			break open
		case n.is("address", "div", "p"):
		case special(n):
			break open
		}
	}
}

// endLink ends an a that is active.
func (b *builder) endLink() {
	e, ok := b.active.Last("a")
	if !ok {
		return
	}
	b.adopt("a")
	// Where adopt ended early, it is still there.
	b.active.Remove(e.ID)
	b.shut(e.ID)
}

// endNobr ends a nobr that is open.
func (b *builder) endNobr() {
	b.rebuild()
	if b.in(inAny, "nobr") {
		b.adopt("nobr")
	}
}

// endInBody are the rules for an end tag.
func (b *builder) endInBody(t api.Token) bool {
	switch name := t.Name; {
	case name == "body", name == "html":
		if b.in(inAny, "body") {
			b.mode = modeAfter
			return name == "html"
		}
	case name == "p":
		if !b.in(inButton, "p") {
			b.insert("p", nil)
		}
		b.closeP()
	case name == "br":
		b.startInBody(api.Token{Kind: api.TokStart, Name: "br"})
	case name == "li":
		b.endOpen(inList, "li", "li")
	case name == "dd", name == "dt":
		b.endOpen(inAny, name, name)
	case name == "button", name == "listing", stack.Is(name, sortBlock):
		b.endOpen(inAny, noName, name)
	case stack.Is(name, sortHeading):
		b.endOpen(inAny, noName, "h1", "h2", "h3", "h4", "h5", "h6")
	case stack.Is(name, sortFormat):
		b.adopt(name)
	case stack.Is(name, sortMarker):
		if b.endOpen(inAny, noName, name) {
			b.active.Clear()
		}
	default:
		b.otherEnd(name)
	}
	return false
}

// endOpen ends an element of one of these names, if one is in a scope, with what ends by itself in it; it tells whether there is one.
func (b *builder) endOpen(scope int, but string, names ...string) bool {
	if !b.in(scope, names...) {
		return false
	}
	b.imply(but)
	b.popTo(names...)
	return true
}
