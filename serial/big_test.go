package serial_test

import (
	"runtime/debug"
	"slices"
	"strings"
	"testing"

	"topiary/api"
	"topiary/serial"
	"topiary/tree"
)

// veryDeep is far deeper than what may be, veryWide far wider.
const (
	veryDeep = 1 << 17
	veryWide = 1 << 18
)

// smallStack makes calls within calls, one for each level of a deep tree, end the test.
func smallStack(t *testing.T) {
	old := debug.SetMaxStack(1 << 22)
	t.Cleanup(func() { debug.SetMaxStack(old) })
}

// times is a text so many times.
func times(s string, n int) string { return strings.Repeat(s, n) }

// P16.1, P16.2, R1: trees that are very deep.
func TestVeryDeep(t *testing.T) {
	smallStack(t)
	for _, x := range []struct {
		tree api.Tree
		want string
	}{
		{chain(veryDeep, api.Element, "p", text("<")), times("<p>", veryDeep) + "&lt;" + times("</p>", veryDeep)},
		{chain(veryDeep, api.Element, "xmp", text("<")), times("<xmp>", veryDeep) + "<" + times("</xmp>", veryDeep)},
		{chain(veryDeep, api.Element, "br", text("<")), "<br>"},
		{chain(veryDeep, api.Root, "", text("<")), "&lt;"},
		{chain(veryDeep, 9, "", text("<")), ""},
	} {
		wantText(t, x.tree, x.want)
		if !tree.Same(serial.Join(x.tree), x.tree) {
			t.Error("joined it is another one:", short(x.want))
		}
	}
	wantText(t, chain(veryDeep, api.Text, "", text("<")), "")
	got := serial.Join(chain(veryDeep, api.Element, "p", el("q", text("a"), text(""), text("b"))))
	if !tree.Same(got, chain(veryDeep, api.Element, "p", el("q", text("ab")))) {
		t.Error("what is very deep is not joined")
	}
}

// ladder is a tree each level of which has a Text ahead of an element, and two behind it.
func ladder(levels int) api.Tree {
	x := el("last")
	for range levels {
		x = el("p", text("<"), x, text("a"), text("b"))
	}
	return x
}

// P16.1, P16.2: a tree that is deep and has kids behind the deep one on each level.
func TestLadder(t *testing.T) {
	smallStack(t)
	x := ladder(veryDeep)
	wantText(t, x, times("<p>&lt;", veryDeep)+"<last></last>"+times("ab</p>", veryDeep))
	want := el("last")
	for range veryDeep {
		want = el("p", text("<"), want, text("ab"))
	}
	if got := serial.Join(x); !tree.Same(got, want) {
		t.Error("joined it is another one")
	}
}

// P16.1, P16.2, R1: trees that are very wide; texts, names and lists of attributes that are very long.
func TestVeryWide(t *testing.T) {
	wide := slices.Repeat([]api.Tree{el("p", text("a")), text("<"), text("b")}, veryWide)
	wantText(t, root(wide...), times("<p>a</p>&lt;b", veryWide))
	if got := serial.Join(root(wide...)); !tree.Same(got, root(slices.Repeat([]api.Tree{el("p", text("a")), text("<b")}, veryWide)...)) {
		t.Error("joined it is another one")
	}
	many := serial.Join(root(letters(veryWide)...))
	if !tree.Same(many, root(slices.Repeat([]api.Tree{text(ofBytes(api.MaxText))}, veryWide/api.MaxText)...)) {
		t.Error("texts of one byte:", len(many.Kids))
	}
	if got := serial.Join(root(slices.Repeat([]api.Tree{text("")}, veryWide)...)); !tree.Same(got, root()) {
		t.Error("empty texts:", len(got.Kids))
	}
	attrs := with(el("br"), slices.Repeat([]string{"a", `"`}, veryWide)...)
	wantText(t, attrs, "<br"+times(` a="&quot;"`, veryWide)+">")
	if got := serial.Join(attrs); !tree.Same(got, attrs) {
		t.Error("attributes:", len(got.Attrs))
	}
	long := times("<&", 1<<21)
	wantText(t, root(text(long), el("xmp", text(long)), comment(long)), times("&lt;&amp;", 1<<21)+"<xmp>"+long+"</xmp><!--"+long+"-->")
	wantText(t, root(el(long), doctype(long)), "<"+long+"></"+long+"><!DOCTYPE "+long+">")
}

// endless is a tree that is in itself.
func endless() api.Tree {
	kids := make([]api.Tree, 1)
	kids[0] = el("p", kids...)
	kids[0].Kids = kids
	return kids[0]
}

// R1: what is not told is not gone through: it may have no end.
func TestNotTold(t *testing.T) {
	for want, x := range map[string]api.Tree{
		"":             {Kind: 9},
		"<br>":         el("br"),
		"<!--c-->":     comment("c"),
		"<!DOCTYPE d>": doctype("d"),
		"t":            text("t"),
	} {
		x.Kids = []api.Tree{endless()}
		wantText(t, x, want)
		wantText(t, el("p", x, x), "<p>"+want+want+"</p>")
	}
}

// P16.1: a tree that stands in several places is told in each.
func TestTwofold(t *testing.T) {
	x, want := text("&"), "&amp;"
	for range 12 {
		x, want = el("p", x, x), "<p>"+want+want+"</p>"
	}
	wantText(t, x, want)
	if got := serial.Join(x); serial.Text(got) != want || tree.Size(got) != 1<<13-1-1<<11 {
		t.Error("joined it is another one:", tree.Size(got))
	}
}
