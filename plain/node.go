package plain

import (
	"strings"

	"topiary/api"
	"topiary/runes"
	"topiary/token"
)

// element tells whether an element comes back, with all in it; a is what is around it.
func (l places) element(t api.Tree, in content, a around) bool {
	if !elementName(t.Name) || !attrsSay(t.Attrs) || losesLine(t) {
		return false
	}
	switch in {
	case nothing:
		return len(t.Kids) == 0
	case words:
		return rawKids(t)
	}
	a = a.and(t.Name)
	for i, k := range t.Kids {
		// Texts that are next to one another come back as one.
		if i > 0 && k.Kind == api.Text && t.Kids[i-1].Kind == api.Text {
			return false
		}
		if !l.kid(k, t.Name, in, a) {
			return false
		}
	}
	return true
}

// kid tells whether a kid of an element comes back; among is what may be in that.
func (l places) kid(k api.Tree, parent string, among content, a around) bool {
	switch k.Kind {
	case api.Comment:
		return Says(k.Text)
	case api.Text:
		return Words(k.Text) && (among == flow || !anyByte(k.Text, noBlank))
	}
	in := l.find(k.Name, parent, among)
	return in != barred && !a.bars(k.Name) && l.element(k, in, a)
}

// noBlank tells whether a byte is no Blank.
func noBlank(c byte) bool { return !runes.Blank(c) }

// elementName tells whether a tag says a name.
func elementName(s string) bool {
	return s != "" && smallLetter(s[0]) && !anyByte(s, notInName)
}

// smallLetter tells whether a byte is one of a to z.
func smallLetter(c byte) bool { return c >= 'a' && c <= 'z' }

// notInName tells whether a byte does not stand in an element's name.
func notInName(c byte) bool {
	return !smallLetter(c) && c != '-' && (c < '0' || c > '9')
}

// attrsSay tells whether a tag says these attributes.
func attrsSay(l []api.Attr) bool {
	for _, a := range l {
		if !Words(a.Name) || !Words(a.Value) {
			return false
		}
	}
	return true
}

// losesLine tells whether an element's text begins with a byte 10 that is left out behind its tag.
func losesLine(t api.Tree) bool {
	switch t.Name {
	case "pre", "listing", "textarea":
		return len(t.Kids) > 0 && t.Kids[0].Kind == api.Text && strings.HasPrefix(t.Kids[0].Text, "\n")
	}
	return false
}

// rawKids tells whether a raw element comes back with what is in it.
func rawKids(t api.Tree) bool {
	switch len(t.Kids) {
	case 0:
		return true
	case 1:
		k := t.Kids[0]
		return k.Kind == api.Text && Words(k.Text) && (token.Raw(t.Name) != asItIs || !strings.Contains(k.Text, "</"))
	}
	return false
}
