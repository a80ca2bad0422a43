package scan_test

import (
	"reflect"
	"slices"
	"testing"

	"topiary/api"
	"topiary/runes"
	"topiary/scan"
	"topiary/token"
)

// The signatures that the chapter lists.
var (
	_ func(string) []api.Token    = scan.All
	_ func([]api.Attr) []api.Attr = scan.Sort
)

// rawNames are the raw elements, by how their texts are read.
var rawNames = map[string]int{"title": 1, "textarea": 1, "style": 2, "script": 2, "xmp": 2, "iframe": 2, "noembed": 2, "noframes": 2}

// second is a second reading of the chapter's words: what is raw is told by a look back at all that has been said. It answers also where one piece ends and the next one begins, no raw element being open.
func second(s string) (said []api.Token, cuts []int) {
	s = runes.Clean(s)
	cuts = append(cuts, 0)
	for at := 0; at < len(s); {
		t, behind, ok := token.Next(s, at, openRaw(said))
		at = behind
		if ok {
			said = append(said, t)
		}
		if openRaw(said) == "" {
			cuts = append(cuts, at)
		}
	}
	return append(said, end0), cuts
}

// openRaw is the raw element that is open behind what has been said.
func openRaw(said []api.Token) string {
	var ended []string
	for _, t := range slices.Backward(said) {
		switch {
		case t.Kind == api.TokEnd:
			ended = append(ended, t.Name)
		case t.Kind == api.TokStart && (rawNames[t.Name] == 0 || slices.Contains(ended, t.Name)):
			return ""
		case t.Kind == api.TokStart:
			return t.Name
		}
	}
	return ""
}

// same tells whether two lists of pieces are one; nil and an empty list are.
func same(a, b []api.Token) bool {
	return slices.EqualFunc(a, b, func(x, y api.Token) bool {
		l, m := x.Attrs, y.Attrs
		x.Attrs, y.Attrs = nil, nil
		return slices.Equal(l, m) && reflect.DeepEqual(x, y)
	})
}

// short is a text that may be told.
func short(s string) string {
	if len(s) > 200 {
		return s[:100] + " .. " + s[len(s)-90:]
	}
	return s
}

// wantAll holds All against all pieces but the last one.
func wantAll(t *testing.T, s string, want ...api.Token) {
	t.Helper()
	want = append(slices.Clone(want), end0)
	if got := scan.All(s); !same(got, want) {
		t.Errorf("All(%q) = %#v, want %#v", short(s), got[:min(len(got), 20)], want[:min(len(want), 20)])
	}
}

// wantSecond holds All against the second reading.
func wantSecond(t *testing.T, s string) {
	t.Helper()
	want, _ := second(s)
	if got := scan.All(s); !same(got, want) {
		t.Errorf("All(%q) = %#v, want %#v", short(s), got[:min(len(got), 20)], want[:min(len(want), 20)])
	}
}

// draw is the next of a row of numbers that look like drawn ones.
func draw(seed *uint64) uint64 {
	*seed = *seed*6364136223846793005 + 1442695040888963407
	return *seed >> 33
}

// Pieces.

var end0 = api.Token{Kind: api.TokEnd0}

func start(name string, l ...string) api.Token {
	x := api.Token{Kind: api.TokStart, Name: name}
	for i := 0; i < len(l); i += 2 {
		x.Attrs = append(x.Attrs, api.Attr{Name: l[i], Value: l[i+1]})
	}
	return x
}

func end(name string) api.Token { return api.Token{Kind: api.TokEnd, Name: name} }

func text(s string) api.Token { return api.Token{Kind: api.TokText, Text: s} }

func rawText(s string) api.Token { return api.Token{Kind: api.TokText, Text: s, Raw: true} }

func comment(s string) api.Token { return api.Token{Kind: api.TokComment, Text: s} }

func doctype(name string) api.Token { return api.Token{Kind: api.TokDoctype, Name: name} }
