package plain_test

import (
	"slices"
	"strconv"
	"strings"
	"testing"
	"unicode/utf8"

	"topiary/api"
	"topiary/parse"
	"topiary/plain"
	"topiary/serial"
	"topiary/tree"
)

// The signatures that the chapter lists.
var (
	_ func(api.Tree) bool = plain.Plain
	_ func(string) bool   = plain.Words
	_ func(string) bool   = plain.Says
)

// What the chapter, and chapters 10 and 12, say of names.
var (
	voids     = strings.Fields("area base br col embed hr img input link meta param source track wbr")
	specials  = strings.Fields("address applet area article aside base blockquote body br button caption center col colgroup dd details dir div dl dt embed fieldset figcaption figure footer form h1 h2 h3 h4 h5 h6 head header hgroup hr html iframe img input li link main marquee menu meta nav noembed noframes object ol p param pre script search section select source style summary table tbody td textarea tfoot th thead title tr track ul wbr xmp")
	formats   = strings.Fields("a b big code em font i nobr s small strike strong tt u")
	implied   = strings.Fields("dd dt li option p rp rt")
	headings  = strings.Fields("h1 h2 h3 h4 h5 h6")
	blocks    = strings.Fields("address article aside blockquote center details dir div dl fieldset figcaption figure footer form header hgroup main menu nav ol pre search section summary ul")
	markers   = strings.Fields("applet marquee object")
	heads     = strings.Fields("base link meta title style script noframes")
	raws      = strings.Fields("title textarea style script xmp iframe noembed noframes")
	asTheyAre = strings.Fields("style script xmp iframe noembed noframes")

	without  = strings.Fields("area br embed img input wbr param source track hr")
	flowRaws = strings.Fields("style script textarea iframe noembed")
	noOthers = strings.Fields("html head body frameset frame plaintext image nobr rp rt option listing button")
	lists    = strings.Fields("ul ol menu")
	endP     = slices.Concat(blocks, headings, strings.Fields("p listing hr table li dd dt"))
)

// names are all names that the document tells elements apart by, and some that are others, such as are nearly one of them, too.
var names = allNames()

func allNames() []string {
	l := slices.Concat(voids, specials, formats, implied, headings, blocks, markers, heads, raws, noOthers)
	slices.Sort(l)
	l = slices.Compact(l)
	return append(l, strings.Fields("span label optgroup ruby noscript svg math rb rtc keygen canvas slot x x-1 z9- h0 h7 lis pp tabl tables textareas brr images aa htm")...)
}

// Nodes.

func root(kids ...api.Tree) api.Tree { return api.Tree{Kind: api.Root, Kids: kids} }

func el(name string, kids ...api.Tree) api.Tree {
	return api.Tree{Kind: api.Element, Name: name, Kids: kids}
}

func text(s string) api.Tree { return api.Tree{Kind: api.Text, Text: s} }

func comment(s string) api.Tree { return api.Tree{Kind: api.Comment, Text: s} }

func doctype(name string) api.Tree { return api.Tree{Kind: api.Doctype, Name: name} }

// with is a node with attributes more: names and values, by turns.
func with(t api.Tree, l ...string) api.Tree {
	t.Attrs = slices.Clone(t.Attrs)
	for i := 0; i < len(l); i += 2 {
		t.Attrs = append(t.Attrs, api.Attr{Name: l[i], Value: l[i+1]})
	}
	return t
}

// page is a page whose body has these kids.
func page(body ...api.Tree) api.Tree { return root(el("html", el("head"), el("body", body...))) }

// headed is a page whose head has these kids.
func headed(head ...api.Tree) api.Tree { return root(el("html", el("head", head...), el("body"))) }

// row is a table of one row of these.
func row(cells ...api.Tree) api.Tree { return el("table", el("tbody", el("tr", cells...))) }

// chain are kids within elements of these names, each in the one ahead of it.
func chain(names string, kids ...api.Tree) api.Tree {
	l := strings.Fields(names)
	for i, name := range slices.Backward(l) {
		if i == 0 {
			return el(name, kids...)
		}
		kids = []api.Tree{el(name, kids...)}
	}
	return api.Tree{}
}

// ofBytes is a text of n bytes.
func ofBytes(n int) string { return strings.Repeat("x", n) }

// short is a text that may be told.
func short(s string) string {
	if len(s) > 600 {
		return s[:300] + " .. " + s[len(s)-290:]
	}
	return s
}

// sameTree tells whether two trees are the same, by calls of itself.
func sameTree(a, b api.Tree) bool {
	return a.Kind == b.Kind && a.Name == b.Name && a.Text == b.Text && slices.Equal(a.Attrs, b.Attrs) && slices.EqualFunc(a.Kids, b.Kids, sameTree)
}

// comesBack tells whether a tree's source, parsed, is that tree.
func comesBack(x api.Tree) bool {
	y, e := parse.Parse(serial.Text(x))
	return e == api.OK && sameTree(x, y)
}

// holds holds what Plain says of a tree against the second reading, and the tree, if it is plain, against what its source, parsed, is.
func holds(t *testing.T, x api.Tree) bool {
	t.Helper()
	got := plain.Plain(x)
	if want := secondPlain(x); got != want {
		t.Errorf("Plain is %v, want %v, of %q", got, want, short(serial.Text(x)))
	}
	if got && !comesBack(x) {
		y, e := parse.Parse(serial.Text(x))
		t.Errorf("%q is plain, but comes back as %q, %v", short(serial.Text(x)), short(serial.Text(y)), e)
	}
	return got
}

// wantPlain wants each of these trees to be plain.
func wantPlain(t *testing.T, l ...api.Tree) {
	t.Helper()
	for i, x := range l {
		if !holds(t, x) {
			t.Errorf("%d: not plain: %q", i, short(serial.Text(x)))
		}
	}
}

// wantNot wants none of these trees to be plain.
func wantNot(t *testing.T, l ...api.Tree) {
	t.Helper()
	for i, x := range l {
		if holds(t, x) {
			t.Errorf("%d: plain: %q", i, short(serial.Text(x)))
		}
	}
}

// want wants a tree to be plain, or not to be.
func want(t *testing.T, x api.Tree, yes bool) {
	t.Helper()
	if yes {
		wantPlain(t, x)
		return
	}
	wantNot(t, x)
}

// Second readings.

func secondWords(s string) bool {
	return utf8.ValidString(s) && strings.Count(s, "\x00")+strings.Count(s, "\r") == 0
}

func secondSays(s string) bool {
	return secondWords(s) && len(strings.Split(s, "--")) == 1 && (s == "" || s[0] != '>' && s[len(s)-1] != '-' && (len(s) == 1 || s[:2] != "->"))
}

// secondPlain is a second reading of Plain: each node is asked by itself, by all that it stands in.
func secondPlain(t api.Tree) bool {
	return tree.Check(t) && len(serial.Text(t)) <= api.MaxSource && secondTop(t) && secondIn(t)
}

// secondTop is what is said of the Root's kids, and of html's.
func secondTop(t api.Tree) bool {
	l := slices.DeleteFunc(slices.Clone(t.Kids), func(k api.Tree) bool { return k.Kind == api.Comment })
	if len(l) == 2 && l[0].Kind == api.Doctype && l[0].Name != "" && secondWords(l[0].Name) && !strings.ContainsAny(l[0].Name, "\t\n\f >ABCDEFGHIJKLMNOPQRSTUVWXYZ") {
		l = l[1:]
	}
	if len(l) != 1 || l[0].Kind != api.Element || l[0].Name != "html" || t.Kids[len(t.Kids)-1].Kind != api.Element {
		return false
	}
	l = l[0].Kids
	return len(l) == 2 && l[0].Kind == api.Element && l[0].Name == "head" && l[1].Kind == api.Element && l[1].Name == "body"
}

// secondIn asks a node, and all in it; in are the names of all that it stands in, "" of the Root.
func secondIn(n api.Tree, in ...string) bool {
	switch n.Kind {
	case api.Comment:
		if !secondSays(n.Text) {
			return false
		}
	case api.Text:
		blanksAlone := slices.Contains(strings.Fields("head table colgroup tbody tfoot thead tr"), in[len(in)-1])
		if !secondWords(n.Text) || blanksAlone && strings.Trim(n.Text, "\t\n\f ") != "" {
			return false
		}
	case api.Element:
		if !secondElement(n) || !secondKids(n) || !secondPlace(n.Name, in) {
			return false
		}
	}
	for _, k := range n.Kids {
		if !secondIn(k, append(slices.Clip(in), n.Name)...) {
			return false
		}
	}
	return true
}

// secondElement is what is said of an element's name and attributes.
func secondElement(n api.Tree) bool {
	const letters = "abcdefghijklmnopqrstuvwxyz"
	for _, a := range n.Attrs {
		if !secondWords(a.Name + " " + a.Value) {
			return false
		}
	}
	return strings.Trim(n.Name[:1], letters) == "" && strings.Trim(n.Name, letters+"0123456789-") == ""
}

// secondKids is what is said of an element's kids by their kinds alone.
func secondKids(n api.Tree) bool {
	kinds := ""
	for _, k := range n.Kids {
		kinds += strconv.Itoa(k.Kind)
	}
	first := ""
	if strings.HasPrefix(kinds, "3") {
		first = n.Kids[0].Text
	}
	switch {
	case strings.Contains(kinds, "33"):
		return false
	case slices.Contains(without, n.Name) || slices.Contains(strings.Fields("base link meta col"), n.Name):
		return kinds == ""
	case slices.Contains(asTheyAre, n.Name) && strings.Contains(first, "</"):
		return false
	case slices.Contains(strings.Fields("pre listing textarea"), n.Name) && strings.HasPrefix(first, "\n"):
		return false
	}
	return !slices.Contains(raws, n.Name) || kinds == "" || kinds == "3"
}

// secondPlace is what is said of where an element of a name stands.
func secondPlace(name string, in []string) bool {
	for _, outer := range in {
		if outer == "p" && slices.Contains(endP, name) || slices.Contains(headings, outer) && slices.Contains(headings, name) || (outer == "a" || outer == "button") && name == outer {
			return false
		}
	}
	may := ""
	switch parent := in[len(in)-1]; parent {
	case "":
		may = "html"
	case "html":
		may = "head body"
	case "head":
		may = "base link meta title style script"
	case "table":
		may = "caption colgroup tbody tfoot thead"
	case "colgroup":
		may = "col"
	case "tbody", "tfoot", "thead":
		may = "tr"
	case "tr":
		may = "td th"
	default:
		return secondFlow(name, parent)
	}
	return slices.Contains(strings.Fields(may), name)
}

// secondFlow is what is said of where an element of a name stands in flow.
func secondFlow(name, parent string) bool {
	is := func(l []string) bool { return slices.Contains(l, name) }
	switch {
	case is(without), is(flowRaws), is(blocks), is(headings), is(strings.Fields("p listing button table")):
		return true
	case name == "li":
		return slices.Contains(lists, parent)
	case name == "dd", name == "dt":
		return parent == "dl"
	case is(formats):
		return name != "nobr"
	}
	return !is(voids) && !is(specials) && !is(implied) && !is(markers) && !is(heads) && !is(noOthers) && !is(raws)
}
