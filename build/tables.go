package build

import "topiary/api"

// inTable are the rules in a table, but outside of its parts.
func (b *builder) inTable(t api.Token) bool {
	switch {
	case blank(t), t.Kind == api.TokComment:
		b.put(t)
	case t.Kind == api.TokDoctype, t.Kind == api.TokEnd0:
	case starts(t, "caption"):
		b.popUpTo("table", "html")
		b.active.Mark()
		b.insert(t.Name, t.Attrs)
		b.mode = modeCaption
	case starts(t, "colgroup"):
		b.startPart(t.Name, t.Attrs, modeColumns)
	case starts(t, "col"):
		b.startPart("colgroup", nil, modeColumns)
		return true
	case starts(t, "tbody", "tfoot", "thead"):
		b.startPart(t.Name, t.Attrs, modeTbody)
	case starts(t, "td", "th", "tr"):
		b.startPart("tbody", nil, modeTbody)
		return true
	case starts(t, "table"), ends(t, "table"):
		if b.in(inTable, "table") {
			b.popTo("table")
			b.raise()
			return t.Kind == api.TokStart
		}
	case ends(t, "body", "caption", "col", "colgroup", "html", "tbody", "td", "tfoot", "th", "thead", "tr"):
	case starts(t, "style", "script"):
		return b.inHead(t)
	default:
		b.foster = true
		again := b.inBody(t)
		b.foster = false
		return again
	}
	return false
}

// startPart begins a part of a table, right in the table.
func (b *builder) startPart(name string, attrs []api.Attr, m mode) {
	b.popUpTo("table", "html")
	b.insert(name, attrs)
	b.mode = m
}

// inCaption are the rules in a caption.
func (b *builder) inCaption(t api.Token) bool {
	switch {
	case ends(t, "caption", "table"), starts(t, "caption", "col", "colgroup", "tbody", "td", "tfoot", "th", "thead", "tr"):
		if b.endOpen(inTable, noName, "caption") {
			b.active.Clear()
			b.mode = modeTable
			return !ends(t, "caption")
		}
	case ends(t, "body", "col", "colgroup", "html", "tbody", "td", "tfoot", "th", "thead", "tr"):
	default:
		return b.inBody(t)
	}
	return false
}

// inColumns are the rules in a colgroup.
func (b *builder) inColumns(t api.Token) bool {
	switch {
	case blank(t), t.Kind == api.TokComment:
		b.put(t)
	case t.Kind == api.TokDoctype, t.Kind == api.TokEnd0, ends(t, "col"):
	case starts(t, "col"):
		b.insertAndLeave(t.Name, t.Attrs)
	case b.current().is("colgroup"):
		b.pop(1)
		b.mode = modeTable
		return !ends(t, "colgroup")
	}
	return false
}

// inTbody are the rules in a tbody, tfoot or thead.
func (b *builder) inTbody(t api.Token) bool {
	switch {
	case starts(t, "tr"):
		b.startRow(t.Attrs)
	case starts(t, "td", "th"):
		b.startRow(nil)
		return true
	case ends(t, "tbody", "tfoot", "thead"):
		if b.in(inTable, t.Name) {
			b.endTbody()
		}
	case starts(t, "caption", "col", "colgroup", "tbody", "tfoot", "thead"), ends(t, "table"):
		if b.in(inTable, "tbody", "tfoot", "thead") {
			b.endTbody()
			return true
		}
	case ends(t, "body", "caption", "col", "colgroup", "html", "td", "th", "tr"):
	default:
		return b.inTable(t)
	}
	return false
}

// startRow begins a tr, right in a tbody, tfoot or thead.
func (b *builder) startRow(attrs []api.Attr) {
	b.popUpTo("tbody", "tfoot", "thead", "html")
	b.insert("tr", attrs)
	b.mode = modeRow
}

// endTbody ends the tbody, tfoot or thead.
func (b *builder) endTbody() {
	b.popTo("tbody", "tfoot", "thead")
	b.mode = modeTable
}

// inRow are the rules in a tr.
func (b *builder) inRow(t api.Token) bool {
	switch {
	case starts(t, "td", "th"):
		b.popUpTo("tr", "html")
		b.insert(t.Name, t.Attrs)
		b.active.Mark()
		b.mode = modeCell
	case ends(t, "tbody", "tfoot", "thead"):
		if !b.in(inTable, t.Name) {
			return false
		}
		fallthrough
	case ends(t, "tr", "table"), starts(t, "caption", "col", "colgroup", "tbody", "tfoot", "thead", "tr"):
		if b.in(inTable, "tr") {
			b.popTo("tr")
			b.mode = modeTbody
			return !ends(t, "tr")
		}
	case ends(t, "body", "caption", "col", "colgroup", "html", "td", "th"):
	default:
		return b.inTable(t)
	}
	return false
}

// inCell are the rules in a td or th.
func (b *builder) inCell(t api.Token) bool {
	switch {
	case ends(t, "td", "th"):
		if b.in(inTable, t.Name) {
			b.endCell(t.Name)
		}
	case starts(t, "caption", "col", "colgroup", "tbody", "td", "tfoot", "th", "thead", "tr"):
		if b.in(inTable, "td", "th") {
			b.endCell("td", "th")
			return true
		}
	case ends(t, "body", "caption", "col", "colgroup", "html"):
	case ends(t, "table", "tbody", "tfoot", "thead", "tr"):
		if b.in(inTable, t.Name) {
			b.endCell("td", "th")
			return true
		}
	default:
		return b.inBody(t)
	}
	return false
}

// endCell ends the innermost cell of one of these names, and what is active in it.
func (b *builder) endCell(names ...string) {
	b.imply(noName)
	b.popTo(names...)
	b.active.Clear()
	b.mode = modeRow
}
