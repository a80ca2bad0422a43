package parse_test

import (
	"reflect"
	"strings"
	"testing"

	"topiary/api"
	"topiary/parse"
	"topiary/tree"
)

// The signatures that the chapter lists.
var (
	_ func(string) (api.Tree, api.Errno)   = parse.Parse
	_ func(string) ([]api.Tree, api.Errno) = parse.Part
)

// show is a list of trees as a text: an element's name and attributes, its kids in brackets; 'a text', !a comment!, ^a doctype; of the Root its kids alone.
func show(l ...api.Tree) string {
	var all []string
	for _, t := range l {
		s := t.Name
		for _, a := range t.Attrs {
			s += " " + a.Name + "=" + a.Value
		}
		switch t.Kind {
		case api.Text:
			s = "'" + t.Text + "'"
		case api.Comment:
			s = "!" + t.Text + "!"
		case api.Doctype:
			s = "^" + t.Name
		}
		if len(t.Kids) > 0 {
			s += "(" + show(t.Kids...) + ")"
		}
		all = append(all, s)
	}
	return strings.Join(all, " ")
}

// short is a text that may be told.
func short(s string) string {
	if len(s) > 400 {
		return s[:200] + " .. " + s[len(s)-190:]
	}
	return s
}

// wantTree holds the tree of a source against what it should be.
func wantTree(t *testing.T, s, want string) {
	t.Helper()
	got, e := parse.Parse(s)
	if e != api.OK || show(got) != want || !tree.Check(got) {
		t.Errorf("Parse(%q)\n is %s, %v\nwant %s", short(s), short(show(got)), e, short(want))
	}
}

// wantBody holds what is in the body of a source's tree against what it should be; there is nothing else but an empty head.
func wantBody(t *testing.T, s, want string) {
	t.Helper()
	if want != "" {
		want = "(" + want + ")"
	}
	wantTree(t, s, "(html(head body"+want+"))")
}

// wantPart holds the nodes of a part against what they should be.
func wantPart(t *testing.T, s, want string) {
	t.Helper()
	got, e := parse.Part(s)
	if e != api.OK || show(got...) != want {
		t.Errorf("Part(%q)\n is %s, %v\nwant %s", short(s), short(show(got...)), e, short(want))
	}
}

// wantErr holds how Parse of a source ends against what it should be; beside an error the tree is zero.
func wantErr(t *testing.T, s string, want api.Errno) {
	t.Helper()
	got, e := parse.Parse(s)
	if e != want || (e == api.OK) != tree.Check(got) || e != api.OK && !reflect.DeepEqual(got, api.Tree{}) {
		t.Errorf("Parse(%q) (%d bytes) is %s, %v, want %v", short(s), len(s), short(show(got)), e, want)
	}
}

// wantPartErr holds how Part of a source ends against what it should be; beside an error there is no node.
func wantPartErr(t *testing.T, s string, want api.Errno) {
	t.Helper()
	got, e := parse.Part(s)
	if e != want || e != api.OK && len(got) != 0 {
		t.Errorf("Part(%q) (%d bytes) is %s, %v, want %v", short(s), len(s), short(show(got...)), e, want)
	}
}

// cases are sources, and what they should be.
type cases [][2]string

// run holds each source against what it should be.
func (l cases) run(t *testing.T, want func(t *testing.T, s, want string)) {
	t.Helper()
	for _, c := range l {
		want(t, c[0], c[1])
	}
}

// filled is a source of n bytes: behind what is ahead one byte again and again, and then what is behind.
func filled(ahead, fill, behind string, n int) string {
	return ahead + strings.Repeat(fill, n-len(ahead)-len(behind)) + behind
}

// each goes through all nodes of a list of trees.
func each(l []api.Tree, do func(*api.Tree)) {
	for i := range l {
		do(&l[i])
		each(l[i].Kids, do)
	}
}

// spoil writes over all memory of a list of trees, spare room too, and tells whether a part of it had been written to already: two lists are one then.
func spoil(l []api.Tree) (shared bool) {
	const mark = "spoilt"
	each(l, func(x *api.Tree) {
		attrs := x.Attrs[:cap(x.Attrs)]
		for i := range attrs {
			shared = shared || attrs[i].Name == mark
			attrs[i] = api.Attr{Name: mark, Value: mark}
		}
	})
	return spoilKids(l, mark) || shared
}

// spoilKids writes over the nodes themselves, what is in one ahead of it.
func spoilKids(l []api.Tree, mark string) (shared bool) {
	for i := range l {
		shared = spoilKids(l[i].Kids, mark) || shared
	}
	l = l[:cap(l)]
	for i := range l {
		shared = shared || l[i].Text == mark
		l[i] = api.Tree{Kind: api.Comment, Text: mark}
	}
	return shared
}

// draw is the next of a row of numbers that look like drawn ones, below n.
func draw(seed *uint64, n int) int {
	*seed = *seed*6364136223846793005 + 1442695040888963407
	return int(*seed >> 33 % uint64(n))
}
