package plain

import (
	"topiary/stack"
	"topiary/token"
)

// The sorts of elements, as stack numbers them.
const (
	sortFirst   = 1
	sortFormat  = 3
	sortHeading = 5
	sortBlock   = 6
	sortLast    = 8
)

// asItIs is token's Raw of elements whose text is told as it is.
const asItIs = 2

// content is what an element may have as its kids.
type content int

const (
	barred  content = iota // the element may not even be there
	nothing                // no kids
	words                  // at most one text
	parts                  // comments, texts of Blanks alone, elements that have their place there
	flow                   // comments, texts, elements that have their place there, and those that have one in all flow
)

// anyFlow stands for the name of each parent that has flow in it.
const anyFlow = ""

// place is where an element stands: its name and its parent's.
type place struct {
	kid, parent string
}

// places are what may be in elements, by where they stand.
type places map[place]content

// allPlaces are the places that have names; what else may stand in flow is told by its sort.
func allPlaces() places {
	l := places{}
	l.add("html", parts, "head")
	l.add("html", flow, "body")
	l.add("head", nothing, "base", "link", "meta")
	l.add("head", words, "title", "style", "script")
	l.add("table", flow, "caption")
	l.add("table", parts, "colgroup", "tbody", "tfoot", "thead")
	l.add("colgroup", nothing, "col")
	l.add("tbody", parts, "tr")
	l.add("tfoot", parts, "tr")
	l.add("thead", parts, "tr")
	l.add("tr", flow, "td", "th")
	l.add("ul", flow, "li")
	l.add("ol", flow, "li")
	l.add("menu", flow, "li")
	l.add("dl", flow, "dd", "dt")
	l.add(anyFlow, nothing, "area", "br", "embed", "img", "input", "wbr", "param", "source", "track", "hr")
	l.add(anyFlow, words, "style", "script", "textarea", "iframe", "noembed")
	l.add(anyFlow, flow, "p", "listing", "button")
	l.add(anyFlow, parts, "table")
	l.add(anyFlow, barred, "html", "head", "body", "frameset", "frame", "plaintext", "image", "nobr", "rp", "rt", "option")
	return l
}

// add adds the places of kids of one parent.
func (l places) add(parent string, in content, kids ...string) {
	for _, kid := range kids {
		l[place{kid, parent}] = in
	}
}

// find is what may be in an element, by its name, its parent's, and what may be in that.
func (l places) find(kid, parent string, among content) content {
	if in, ok := l[place{kid, parent}]; ok {
		return in
	}
	if among != flow {
		return barred
	}
	if in, ok := l[place{kid, anyFlow}]; ok {
		return in
	}
	return bySort(kid)
}

// bySort is what may be in an element in flow whose name has no place of its own.
func bySort(name string) content {
	switch {
	case stack.Is(name, sortBlock), stack.Is(name, sortHeading), stack.Is(name, sortFormat):
		return flow
	case sorted(name), token.Raw(name) != 0:
		return barred
	}
	return flow
}

// sorted tells whether an element is of any sort.
func sorted(name string) bool {
	for sort := sortFirst; sort <= sortLast; sort++ {
		if stack.Is(name, sort) {
			return true
		}
	}
	return false
}

// around is what an element stands in, in whatever depth, of what bars others.
type around struct {
	p, heading, link, button bool
}

// and is what stands in an element of a name, too.
func (a around) and(name string) around {
	a.p = a.p || name == "p"
	a.heading = a.heading || stack.Is(name, sortHeading)
	a.link = a.link || name == "a"
	a.button = a.button || name == "button"
	return a
}

// bars tells whether an element may not stand there for what is around it.
func (a around) bars(name string) bool {
	switch {
	case a.p && endsP(name), a.heading && stack.Is(name, sortHeading), a.link && name == "a", a.button && name == "button":
		return true
	}
	return false
}

// endsP tells whether an element can't stand in a p.
func endsP(name string) bool {
	switch name {
	case "p", "listing", "hr", "table", "li", "dd", "dt":
		return true
	}
	return stack.Is(name, sortBlock) || stack.Is(name, sortHeading)
}
