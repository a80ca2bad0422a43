package build_test

import (
	"reflect"
	"slices"
	"strings"
	"testing"

	"topiary/api"
	"topiary/build"
	"topiary/scan"
)

// The signature that the chapter lists.
var _ func([]api.Token) (api.Tree, api.Errno) = build.Build

// show is a tree as a text: an element's name and attributes, its kids in brackets; 'a text', !a comment!, ^a doctype.
func show(t api.Tree) string {
	s := ""
	switch t.Kind {
	case api.Element:
		s = t.Name
		for _, a := range t.Attrs {
			s += " " + a.Name + "=" + a.Value
		}
	case api.Text:
		return "'" + t.Text + "'"
	case api.Comment:
		return "!" + t.Text + "!"
	case api.Doctype:
		return "^" + t.Name
	}
	if len(t.Kids) == 0 {
		return s
	}
	var l []string
	for _, k := range t.Kids {
		l = append(l, show(k))
	}
	return s + "(" + strings.Join(l, " ") + ")"
}

// short is a text that may be told.
func short(s string) string {
	if len(s) > 1000 {
		return s[:500] + " .. " + s[len(s)-490:]
	}
	return s
}

// tell is a list of pieces as a text.
func tell(l []api.Token) string {
	var b strings.Builder
	for _, t := range l {
		b.WriteString(map[int]string{1: "<", 2: "</", 3: "'", 4: "!", 5: "^", 6: "end"}[t.Kind])
		b.WriteString(t.Name + t.Text)
		for _, a := range t.Attrs {
			b.WriteString(" " + a.Name + "=" + a.Value)
		}
		b.WriteString(" ")
	}
	return short(b.String())
}

// wantPieces holds the tree of pieces against what it should be.
func wantPieces(t *testing.T, want string, l ...api.Token) {
	t.Helper()
	got, e := build.Build(l)
	if e != api.OK || show(got) != want {
		t.Errorf("%s\n is %s, %v\nwant %s", tell(l), short(show(got)), e, short(want))
	}
}

// wantErr holds the answer against an error.
func wantErr(t *testing.T, want api.Errno, l ...api.Token) {
	t.Helper()
	got, e := build.Build(l)
	if e != want {
		t.Errorf("%s: %v, want %v", tell(l), e, want)
	}
	if e != api.OK && !reflect.DeepEqual(got, api.Tree{}) {
		t.Errorf("%s: %v beside %v", tell(l), short(show(got)), e)
	}
}

// wantTree holds the tree of a source against what it should be.
func wantTree(t *testing.T, source, want string) {
	t.Helper()
	got, e := build.Build(scan.All(source))
	if e != api.OK || show(got) != want {
		t.Errorf("%s\n is %s, %v\nwant %s", short(source), short(show(got)), e, short(want))
	}
}

// wantBody holds what is in the body of a source's tree against what it should be; there is nothing else but an empty head.
func wantBody(t *testing.T, source, want string) {
	t.Helper()
	if want != "" {
		want = "(" + want + ")"
	}
	wantTree(t, source, "(html(head body"+want+"))")
}

// wantSecond holds the answer against the second reading's.
func wantSecond(t *testing.T, l []api.Token) *second {
	t.Helper()
	got, e := build.Build(l)
	want, we, s := buildSecond(l)
	if e != we || show(got) != show(want) {
		t.Fatalf("%s\n is %s, %v\nwant %s, %v", tell(l), short(show(got)), e, short(show(want)), we)
	}
	return s
}

// cases are sources, and what is in the body of their trees.
type cases [][2]string

func (l cases) run(t *testing.T) {
	t.Helper()
	for _, c := range l {
		wantBody(t, c[0], c[1])
	}
}

// wholes are sources and their trees.
type wholes [][2]string

func (l wholes) run(t *testing.T) {
	t.Helper()
	for _, c := range l {
		wantTree(t, c[0], c[1])
	}
}

// words are the words of a text.
func words(s string) []string { return strings.Fields(s) }

// draw is the next of a row of numbers that look like drawn ones, below n.
func draw(seed *uint64, n int) int {
	*seed = *seed*6364136223846793005 + 1442695040888963407
	return int(*seed >> 33 % uint64(n))
}

// Pieces.

var end0 = api.Token{Kind: api.TokEnd0}

func start(name string, l ...string) api.Token {
	x := api.Token{Kind: api.TokStart, Name: name}
	for i := 0; i < len(l); i += 2 {
		x.Attrs = append(x.Attrs, api.Attr{Name: l[i], Value: l[i+1]})
	}
	return x
}

func end(name string) api.Token { return api.Token{Kind: api.TokEnd, Name: name} }

func text(s string) api.Token { return api.Token{Kind: api.TokText, Text: s} }

func comment(s string) api.Token { return api.Token{Kind: api.TokComment, Text: s} }

func doctype(name string) api.Token { return api.Token{Kind: api.TokDoctype, Name: name} }

// pieces are the pieces of a source, without the end of all, and some more.
func pieces(source string, more ...api.Token) []api.Token {
	l := scan.All(source)
	return slices.Concat(l[:len(l)-1], more)
}

// repeat is a piece so many times.
func repeat(t api.Token, n int) []api.Token { return slices.Repeat([]api.Token{t}, n) }
