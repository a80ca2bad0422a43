package build

import (
	"strings"
	"testing"

	"topiary/api"
)

// opened is a builder in which these elements are open, each in the one ahead of it.
func opened(names string) *builder {
	b := newBuilder()
	for _, name := range strings.Fields(names) {
		b.insert(name, nil)
	}
	return b
}

// P14.2: to raise a mode, by each of the names; some of them no source leads to.
func TestRaiseByEachName(t *testing.T) {
	for names, want := range map[string]mode{
		"td": modeCell, "th": modeCell, "tr": modeRow, "tbody": modeTbody, "thead": modeTbody, "tfoot": modeTbody,
		"caption": modeCaption, "colgroup": modeColumns, "table": modeTable, "head": modeHead, "body": modeBody, "html": modeBehindHead,
		"": modeBody, "p": modeBody, "div b span": modeBody, "title": modeBody, "col": modeBody,
		// The innermost one of these counts, whatever is further in.
		"html head":                             modeHead,
		"html body":                             modeBody,
		"html body p b":                         modeBody,
		"html body table":                       modeTable,
		"html body table div":                   modeTable,
		"html body table tbody":                 modeTbody,
		"html body table tbody tr":              modeRow,
		"html body table tbody tr td":           modeCell,
		"html body table tbody tr td table":     modeTable,
		"html body table tbody tr td p b":       modeCell,
		"html body table caption b i":           modeCaption,
		"html body table colgroup":              modeColumns,
		"html body table thead tr th object":    modeCell,
		"html p":                                modeBehindHead,
		"html body table tbody tr td body html": modeBehindHead,
	} {
		b := opened(names)
		b.mode = modeStart
		b.raise()
		if b.mode != want {
			t.Errorf("within %q the mode is %d, want %d", names, b.mode, want)
		}
	}
}

// kidsOf are the names of a node's kids.
func kidsOf(n *node) string {
	var l []string
	for _, k := range n.kids {
		l = append(l, k.self.Name+k.self.Text+string(k.text))
	}
	return strings.Join(l, " ")
}

// P14.2: in foster sense, where current is a table's part but no table is open, things are the last kids of the outermost open element.
func TestFosterWithoutTable(t *testing.T) {
	for _, name := range []string{"tbody", "tfoot", "thead", "tr"} {
		b := opened("html body div " + name)
		b.foster = true
		b.putText("x")
		b.insertAndLeave("br", nil)
		b.put(api.Token{Kind: api.TokComment, Text: "c"})
		b.putText("y")
		b.putText("z")
		if got := kidsOf(b.outermost()); got != "body x br c yz" {
			t.Errorf("%s: in html there is %q", name, got)
		}
		if len(b.current().kids) != 0 {
			t.Errorf("%s: in it there is %q", name, kidsOf(b.current()))
		}
	}
	for _, name := range []string{"td", "th", "caption", "colgroup", "div", "body", "html"} {
		b := opened("html table " + name)
		b.foster = true
		b.putText("x")
		if got := kidsOf(b.current()); got != "x" {
			t.Errorf("%s: in it there is %q", name, got)
		}
	}
}

// P14.2: a text at the Root is dropped, and is no node; an element there is none the less.
func TestTextAtRoot(t *testing.T) {
	b := newBuilder()
	b.putText("x")
	b.put(api.Token{Kind: api.TokText, Text: "y"})
	if len(b.arena) != 1 || len(b.root().kids) != 0 {
		t.Errorf("%d nodes; at the Root there is %q", len(b.arena), kidsOf(b.root()))
	}
	// In foster sense, too: of a table that is a kid of the Root.
	b = opened("table")
	b.foster = true
	b.putText("x")
	b.insertAndLeave("br", nil)
	if got := kidsOf(b.root()); got != "br table" || len(b.arena) != 3 {
		t.Errorf("%d nodes; at the Root there is %q", len(b.arena), got)
	}
}

// P14.2: to pop up to names that are not open pops nothing.
func TestPopUpToNone(t *testing.T) {
	b := opened("a b c")
	b.popUpTo("x", "y")
	b.popTo("x")
	b.popUpTo("c")
	if len(b.open) != 3 {
		t.Error(b.names())
	}
	b.popUpTo("x", "a", "b")
	if len(b.open) != 2 {
		t.Error(b.names())
	}
	b.popTo("a", "x")
	if len(b.open) != 0 || b.current() != b.root() || b.outermost() != b.root() {
		t.Error(b.names())
	}
}

// P14.7: what asks for a colgroup that is current, or for parts that are in scope, is dropped where that is not so; no source leads there.
func TestPartsThatAreNotOpen(t *testing.T) {
	drop := func(names string, m mode, l ...api.Token) {
		t.Helper()
		for _, x := range l {
			b := opened(names)
			b.mode = m
			made := len(b.arena)
			if b.step(x) || b.mode != m || strings.Join(b.names(), " ") != names || len(b.arena) != made {
				t.Errorf("%q, mode %d, %v: mode %d, %v", names, m, x, b.mode, b.names())
			}
		}
	}
	start := func(name string) api.Token { return api.Token{Kind: api.TokStart, Name: name} }
	end := func(name string) api.Token { return api.Token{Kind: api.TokEnd, Name: name} }
	text := api.Token{Kind: api.TokText, Text: "x"}
	drop("html body table", modeColumns, end("colgroup"), text, start("tr"), start("p"), end("table"), end("p"), start("table"))
	drop("html body table", modeCaption, end("caption"), start("caption"), start("tr"), end("table"))
	drop("html body table", modeTbody, end("tbody"), end("tfoot"), end("thead"), start("caption"), start("tbody"), end("table"))
	drop("html body table tbody", modeTbody, end("tfoot"), end("thead"))
	drop("html body table tbody table", modeTbody, end("tbody"), start("col"), end("table"))
	drop("html body table tbody", modeRow, end("tr"), start("tr"), start("caption"), end("table"), end("tbody"))
	drop("html body table tbody tr", modeRow, end("tfoot"), end("thead"))
	drop("html body table tbody tr", modeCell, end("td"), end("th"), start("td"), start("tr"), start("caption"), end("tfoot"))
	drop("html body table tbody tr td", modeCell, end("th"), end("tfoot"), end("thead"))
	drop("html body", modeTable, start("table"), end("table"))
}
