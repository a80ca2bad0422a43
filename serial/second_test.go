package serial_test

import (
	"slices"
	"strings"
	"testing"

	"topiary/api"
	"topiary/serial"
)

// The signatures that the chapter lists.
var (
	_ func(api.Tree) string   = serial.Text
	_ func(api.Tree) int      = serial.Len
	_ func(api.Tree) api.Tree = serial.Join
)

// What chapters 10 and 12 say of names.
var (
	voids     = strings.Fields("area base br col embed hr img input link meta param source track wbr")
	asTheyAre = strings.Fields("style script xmp iframe noembed noframes")
	decoded   = strings.Fields("title textarea")
)

// Nodes.

func root(kids ...api.Tree) api.Tree { return api.Tree{Kind: api.Root, Kids: kids} }

func el(name string, kids ...api.Tree) api.Tree {
	return api.Tree{Kind: api.Element, Name: name, Kids: kids}
}

func text(s string) api.Tree { return api.Tree{Kind: api.Text, Text: s} }

func comment(s string) api.Tree { return api.Tree{Kind: api.Comment, Text: s} }

func doctype(name string) api.Tree { return api.Tree{Kind: api.Doctype, Name: name} }

// with is a node with attributes more: names and values, by turns.
func with(t api.Tree, l ...string) api.Tree {
	t.Attrs = slices.Clone(t.Attrs)
	for i := 0; i < len(l); i += 2 {
		t.Attrs = append(t.Attrs, api.Attr{Name: l[i], Value: l[i+1]})
	}
	return t
}

// full is a node that has all parts that a node can have, whatever its kind.
func full(kind int, kids ...api.Tree) api.Tree {
	return with(api.Tree{Kind: kind, Name: "n", Text: "t", Kids: kids}, "a", "1")
}

// chain is a node within n others of a kind.
func chain(n int, kind int, name string, t api.Tree) api.Tree {
	for range n {
		t = api.Tree{Kind: kind, Name: name, Kids: []api.Tree{t}}
	}
	return t
}

// ofBytes is a text of n bytes.
func ofBytes(n int) string { return strings.Repeat("x", n) }

// short is a text that may be told.
func short(s string) string {
	if len(s) > 300 {
		return s[:150] + " .. " + s[len(s)-140:]
	}
	return s
}

// What Escape makes of a text, in one go.
var (
	escaped      = strings.NewReplacer("&", "&amp;", "\u00a0", "&nbsp;", "<", "&lt;", ">", "&gt;")
	escapedValue = strings.NewReplacer("&", "&amp;", "\u00a0", "&nbsp;", "<", "&lt;", ">", "&gt;", `"`, "&quot;")
)

// secondText is a second reading of Text, by calls of itself; of is the node that t is a kid of.
func secondText(t, of api.Tree) string {
	var kids strings.Builder
	for _, k := range t.Kids {
		kids.WriteString(secondText(k, t))
	}
	switch {
	case t.Kind == api.Root:
		return kids.String()
	case t.Kind == api.Doctype:
		return "<!DOCTYPE " + t.Name + ">"
	case t.Kind == api.Comment:
		return "<!--" + t.Text + "-->"
	case t.Kind == api.Text && of.Kind == api.Element && slices.Contains(asTheyAre, of.Name):
		return t.Text
	case t.Kind == api.Text:
		return escaped.Replace(t.Text)
	case t.Kind != api.Element:
		return ""
	}
	attrs := ""
	for _, a := range t.Attrs {
		attrs += " " + a.Name + `="` + escapedValue.Replace(a.Value) + `"`
	}
	if slices.Contains(voids, t.Name) {
		return "<" + t.Name + attrs + ">"
	}
	return "<" + t.Name + attrs + ">" + kids.String() + "</" + t.Name + ">"
}

// secondJoin is a second reading of Join: what is empty goes first; then the first two that may be one are made one, until there are none.
func secondJoin(t api.Tree) api.Tree {
	t.Attrs = slices.Clone(t.Attrs)
	t.Kids = slices.DeleteFunc(slices.Clone(t.Kids), func(k api.Tree) bool { return k.Kind == api.Text && k.Text == "" })
	for at := firstToJoin(t.Kids); at > 0; at = firstToJoin(t.Kids) {
		t.Kids[at-1].Text += t.Kids[at].Text
		t.Kids = slices.Delete(t.Kids, at, at+1)
	}
	for i, k := range t.Kids {
		t.Kids[i] = secondJoin(k)
	}
	return t
}

// firstToJoin is the place of the first text that may be added to the one ahead of it; 0, if there is none.
func firstToJoin(l []api.Tree) int {
	for i := 1; i < len(l); i++ {
		if l[i].Kind == api.Text && l[i-1].Kind == api.Text && len(l[i-1].Text+l[i].Text) <= api.MaxText {
			return i
		}
	}
	return 0
}

// wantText holds Text and Len of a tree against its source.
func wantText(t *testing.T, x api.Tree, want string) {
	t.Helper()
	if got := serial.Text(x); got != want {
		t.Errorf("Text is %q\nwant %q", short(got), short(want))
	}
	if got := serial.Len(x); got != len(want) {
		t.Errorf("Len is %d, want %d, of %q", got, len(want), short(want))
	}
}

// draw is the next of a row of numbers that look like drawn ones, below n.
func draw(seed *uint64, n int) int {
	*seed = *seed*6364136223846793005 + 1442695040888963407
	return int(*seed >> 33 % uint64(n))
}

// pick is one of a list, drawn.
func pick[T any](seed *uint64, l ...T) T { return l[draw(seed, len(l))] }

// drawnWords is a drawn text: of signs that are turned, of such as are nearly so, at times one that is about as long as may be.
func drawnWords(seed *uint64) string {
	if draw(seed, 20) == 0 {
		return ofBytes(api.MaxText + pick(seed, -2, -1, 0, 1, -api.MaxText/2, 1-api.MaxText/2))
	}
	s := ""
	for range draw(seed, 4) {
		s += pick(seed, "a", " ", "&", "<", ">", `"`, "'", "\u00a0", "&amp;", "--", "]]>", "</", "\x00", "\r", "ü", "\U0001f333")
	}
	return s
}

// drawnTree is a drawn tree of at most so many levels. One that is wild may have any part that a node can have, whatever its kind, and bytes that are no runes.
func drawnTree(seed *uint64, levels int, wild bool) api.Tree {
	t := api.Tree{Kind: pick(seed, api.Text, api.Text, api.Text, api.Element, api.Element, api.Comment)}
	if wild {
		t.Kind = pick(seed, t.Kind, t.Kind, t.Kind, api.Root, api.Doctype, 0, 6, -3, 1<<32+api.Text)
	}
	if t.Kind == api.Element || wild {
		t.Name = pick(seed, "p", "b", "br", "img", "title", "textarea", "script", "style", "xmp", "plaintext")
		for i := range draw(seed, 4) {
			t = with(t, string(rune('a'+i)), drawnWords(seed))
		}
		for range draw(seed, 7) * min(levels, 1) {
			t.Kids = append(t.Kids, drawnTree(seed, levels-1, wild))
		}
	}
	if t.Kind == api.Text || t.Kind == api.Comment || wild {
		t.Text = drawnWords(seed)
	}
	if wild && draw(seed, 4) == 0 {
		t.Name = pick(seed, "", "BR", "Script", "a b", "<&>", `"`, "\xff")
		t.Text += pick(seed, "\xc2", "\xa0", "\xff")
	}
	return t
}
