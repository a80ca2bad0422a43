package parse

import (
	"testing"

	"topiary/api"
)

// node is a node with kids.
func node(kind int, name string, kids ...api.Tree) api.Tree {
	return api.Tree{Kind: kind, Name: name, Kids: kids}
}

// P15.1: the body's kids are those of the last kid's last kid, if these are an Element html and an Element body. No source has another last kid of the Root than html, so that is asked here.
func TestKidsOfLast(t *testing.T) {
	x, y := node(api.Element, "x"), node(api.Element, "y")
	body := node(api.Element, "body", x, y)
	html := node(api.Element, "html", node(api.Element, "head"), body)
	comment := api.Tree{Kind: api.Comment, Text: "html"}
	for _, c := range []struct {
		root api.Tree
		want int
	}{
		{node(api.Root, "", html), 2},
		{node(api.Root, "", node(api.Doctype, "html"), comment, html), 2},
		{node(api.Root, "", node(api.Element, "html", node(api.Element, "body", x))), 1},
		{node(api.Root, "", node(api.Element, "html", node(api.Element, "body"))), 0},
		{node(api.Root, ""), 0},
		{node(api.Root, "", html, comment), 0},
		{node(api.Root, "", html, node(api.Doctype, "html")), 0},
		{node(api.Root, "", html, node(api.Element, "html")), 0},
		{node(api.Root, "", html, body), 0},
		{node(api.Root, "", node(api.Element, "x", body)), 0},
		{node(api.Root, "", node(api.Comment, "html", body)), 0},
		{node(api.Root, "", node(api.Element, "html", body, comment)), 0},
		{node(api.Root, "", node(api.Element, "html", body, x)), 0},
		{node(api.Root, "", node(api.Element, "html", body, node(api.Doctype, "body", x))), 0},
		{node(api.Root, "", node(api.Element, "html", node(api.Element, "html", body))), 0},
	} {
		if l := kidsOfLast(c.root, "html", "body"); len(l) != c.want {
			t.Errorf("%v: %v, want %d of them", c.root, l, c.want)
		}
	}
}

// P15.1: parts are joined as they are, and their bytes count in all.
func TestParseJoined(t *testing.T) {
	zeros := string(make([]byte, api.MaxSource))
	for _, c := range []struct {
		parts []string
		want  api.Errno
	}{
		{nil, api.OK},
		{[]string{"", ""}, api.OK},
		{[]string{"<p", ">", "<b", ">"}, api.OK},
		{[]string{"<p ", zeros[4:], ">"}, api.OK},
		{[]string{"<p ", zeros[3:], ">"}, api.ErrBig},
		{[]string{"<p ", zeros, "", ">"}, api.ErrBig},
		{[]string{zeros + " "}, api.ErrBig},
		{[]string{zeros, zeros, zeros}, api.ErrBig},
		{[]string{"", "x", zeros}, api.ErrBig},
	} {
		if got, e := parseJoined(c.parts...); e != c.want || (e == api.OK) != (got.Kind == api.Root) {
			t.Errorf("%d parts: %v, want %v", len(c.parts), e, c.want)
		}
	}
	one, _ := parseJoined("<", "p>a", "&l", "t;")
	two, _ := Parse("<p>a&lt;")
	if l, m := kidsOfLast(one, "html", "body"), kidsOfLast(two, "html", "body"); len(l) != 1 || len(m) != 1 || l[0].Name != "p" || l[0].Kids[0].Text != "a<" || m[0].Kids[0].Text != "a<" {
		t.Error(one, two)
	}
}
