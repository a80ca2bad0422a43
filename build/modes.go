package build

import (
	"topiary/api"
	"topiary/stack"
)

// mode is by which rules the next piece is taken.
type mode int

const (
	modeStart mode = iota
	modeHTML
	modeAhead
	modeHead
	modeBehindHead
	modeBody
	modeAfter
	modeTable
	modeCaption
	modeColumns
	modeTbody
	modeRow
	modeCell
)

// modeWithin is the mode within an element, if that says it.
func modeWithin(name string) (mode, bool) {
	switch name {
	case "td", "th":
		return modeCell, true
	case "tr":
		return modeRow, true
	case "tbody", "thead", "tfoot":
		return modeTbody, true
	case "caption":
		return modeCaption, true
	case "colgroup":
		return modeColumns, true
	case "table":
		return modeTable, true
	case "head":
		return modeHead, true
	case "body":
		return modeBody, true
	case "html":
		return modeBehindHead, true
	}
	return 0, false
}

// step takes a piece by the rules of the mode that is now. Like the rules, it tells whether the piece is to be taken again.
func (b *builder) step(t api.Token) bool {
	if b.current().is("title", "textarea", "style", "script", "xmp", "iframe", "noembed", "noframes") {
		return b.inRaw(t)
	}
	switch b.mode {
	case modeStart:
		return b.inStart(t)
	case modeHTML:
		return b.inHTML(t)
	case modeAhead:
		return b.inAhead(t)
	case modeHead:
		return b.inHead(t)
	case modeBehindHead:
		return b.inBehindHead(t)
	case modeAfter:
		return b.inAfter(t)
	case modeTable:
		return b.inTable(t)
	case modeCaption:
		return b.inCaption(t)
	case modeColumns:
		return b.inColumns(t)
	case modeTbody:
		return b.inTbody(t)
	case modeRow:
		return b.inRow(t)
	case modeCell:
		return b.inCell(t)
	}
	return b.inBody(t)
}

// inRaw are the rules where current is a raw element.
func (b *builder) inRaw(t api.Token) bool {
	switch t.Kind {
	case api.TokText:
		b.put(t)
	case api.TokStart, api.TokEnd0:
		b.pop(1)
		return true
	case api.TokEnd:
		if b.current().is(t.Name) {
			b.pop(1)
		}
	}
	return false
}

// inStart are the rules ahead of a doctype.
func (b *builder) inStart(t api.Token) bool {
	switch {
	case t.Kind == api.TokComment:
		b.putComment(t, b.root().end())
	case t.Kind == api.TokDoctype:
		b.add(api.Tree{Kind: api.Doctype, Name: t.Name}).attach(b.root().end())
		b.mode = modeHTML
	case blank(t):
	default:
		b.mode = modeHTML
		return true
	}
	return false
}

// inHTML are the rules ahead of html.
func (b *builder) inHTML(t api.Token) bool {
	switch {
	case t.Kind == api.TokComment:
		b.putComment(t, b.root().end())
	case t.Kind == api.TokDoctype, blank(t):
	case starts(t, "html"):
		b.insert(t.Name, t.Attrs)
		b.mode = modeAhead
	case endsBut(t, "head", "body", "html", "br"):
	default:
		b.insert("html", nil)
		b.mode = modeAhead
		return true
	}
	return false
}

// inAhead are the rules ahead of the head.
func (b *builder) inAhead(t api.Token) bool {
	switch {
	case t.Kind == api.TokComment:
		b.put(t)
	case t.Kind == api.TokDoctype, blank(t):
	case starts(t, "html"):
		return b.inBody(t)
	case starts(t, "head"):
		b.head = b.insert(t.Name, t.Attrs)
		b.mode = modeHead
	case endsBut(t, "head", "body", "html", "br"):
	default:
		b.head = b.insert("head", nil)
		b.mode = modeHead
		return true
	}
	return false
}

// inHead are the rules in the head.
func (b *builder) inHead(t api.Token) bool {
	switch {
	case blank(t), t.Kind == api.TokComment:
		b.put(t)
	case t.Kind == api.TokDoctype, starts(t, "head"):
	case starts(t, "html"):
		return b.inBody(t)
	case starts(t, "base", "link", "meta"):
		b.insertAndLeave(t.Name, t.Attrs)
	case starts(t, "title", "style", "script", "noframes"):
		// The text that follows is put as it is, since these are raw.
		b.insert(t.Name, t.Attrs)
	case ends(t, "head"):
		b.pop(1)
		b.mode = modeBehindHead
	case endsBut(t, "body", "html", "br"):
		// The end of a title, style, script or noframes that is current was taken as that of a raw element.
	default:
		b.popTo("head")
		b.mode = modeBehindHead
		return true
	}
	return false
}

// inBehindHead are the rules between the head and the body.
func (b *builder) inBehindHead(t api.Token) bool {
	switch {
	case blank(t), t.Kind == api.TokComment:
		b.put(t)
	case t.Kind == api.TokDoctype, starts(t, "head"):
	case starts(t, "html"):
		return b.inBody(t)
	case starts(t, "body"):
		b.insert(t.Name, t.Attrs)
		b.mode = modeBody
	case t.Kind == api.TokStart && stack.Is(t.Name, sortHead):
		b.open = append(b.open, b.head)
		b.inHead(t)
		b.shut(b.head.id)
	case endsBut(t, "body", "html", "br"):
	default:
		b.insert("body", nil)
		b.mode = modeBody
		return true
	}
	return false
}

// inAfter are the rules behind the end of the body.
func (b *builder) inAfter(t api.Token) bool {
	switch {
	case blank(t):
		return b.inBody(t)
	case t.Kind == api.TokComment:
		b.putComment(t, b.outermost().end())
	case t.Kind == api.TokDoctype, ends(t, "html"):
	default:
		b.mode = modeBody
		return true
	}
	return false
}
