package token_test

import (
	"cmp"
	"reflect"
	"regexp"
	"slices"
	"strings"
	"testing"

	"topiary/api"
	"topiary/charref"
	"topiary/token"
)

// The signatures that the chapter lists.
var (
	_ func(string, int, string) (api.Token, int, bool) = token.Next
	_ func(string) int                                 = token.Raw
)

// What the chapter's words call pieces, at the beginning of a text.
var (
	textOfBlanks  = regexp.MustCompile(`^[\t\n\f ]+`)
	textOfOthers  = regexp.MustCompile(`^[^\t\n\f <]+`)
	endedComment  = regexp.MustCompile(`(?s)^<!--(?:-?>|(.*?)--!?>)`)
	cutComment    = regexp.MustCompile(`(?s)^<!--(.*?)(?:--!|--|-)?\z`)
	anyDoctype    = regexp.MustCompile(`^<![Dd][Oo][Cc][Tt][Yy][Pp][Ee][\t\n\f ]*([^\t\n\f >]*)[^>]*(?:>|\z)`)
	otherMark     = regexp.MustCompile(`^<!([^>]*)(?:>|\z)`)
	otherQuestion = regexp.MustCompile(`^<(\?[^>]*)(?:>|\z)`)
	otherEnd      = regexp.MustCompile(`(?s)^</([^>]+)(?:>|\z)`)
	anyTag        = regexp.MustCompile(`^<(/?)[A-Za-z]`)
)

// said is what Next answers.
type said struct {
	piece  api.Token
	behind int
	ok     bool
}

// second is a second reading of the chapter's words: regular expressions, and for tags a machine that goes on byte by byte.
func second(s string, at int, raw string) said {
	if at < 0 || at >= len(s) {
		return said{api.Token{Kind: api.TokEnd0}, len(s), true}
	}
	if raw != "" {
		if end := secondRawEnd(s, at, raw); end != at {
			text := s[at:end]
			if raw == "title" || raw == "textarea" {
				text = charref.Decode(text, false)
			}
			return said{api.Token{Kind: api.TokText, Text: text, Raw: true}, end, true}
		}
	}
	x := secondPiece(s[at:])
	x.behind += at
	return x
}

// secondRawEnd is the first place from at on where an end of a raw element stands.
func secondRawEnd(s string, at int, raw string) int {
	end := small("</" + raw)
	for ; at < len(s); at++ {
		rest := small(s[at:])
		for _, c := range "\t\n\f />" {
			if strings.HasPrefix(rest, end+string(c)) {
				return at
			}
		}
	}
	return len(s)
}

// secondPiece is what Next answers at the beginning of a text, without raw.
func secondPiece(s string) said {
	for _, text := range []*regexp.Regexp{textOfBlanks, textOfOthers} {
		if l := text.FindString(s); l != "" {
			return said{api.Token{Kind: api.TokText, Text: charref.Decode(l, false)}, len(l), true}
		}
	}
	if l := anyTag.FindStringSubmatch(s); l != nil {
		m := machine{kind: api.TokStart}
		if l[1] != "" {
			m.kind = api.TokEnd
		}
		return m.run(s, 1+len(l[1]))
	}
	if strings.HasPrefix(s, "</>") {
		return said{api.Token{}, 3, false}
	}
	if l := anyDoctype.FindStringSubmatch(s); l != nil {
		return said{api.Token{Kind: api.TokDoctype, Name: small(l[1])}, len(l[0]), true}
	}
	for _, one := range []*regexp.Regexp{endedComment, cutComment, otherMark, otherQuestion, otherEnd} {
		if l := one.FindStringSubmatch(s); l != nil {
			return said{api.Token{Kind: api.TokComment, Text: l[1]}, len(l[0]), true}
		}
	}
	return said{api.Token{Kind: api.TokText, Text: "<"}, 1, true}
}

// small is a text with a to z for A to Z, and no other letter changed.
func small(s string) string {
	l := []byte(s)
	for i, c := range l {
		if strings.IndexByte("ABCDEFGHIJKLMNOPQRSTUVWXYZ", c) >= 0 {
			l[i] = c | 0x20
		}
	}
	return string(l)
}

// machine goes through a tag byte by byte: state is what it is in.
type machine struct {
	state byte // n: the tag's name; b: between attributes; a: an attribute's name; s: behind it; v: ahead of a value; u: in one; " and ': in one with quotes
	kind  int
	name  string
	l     []api.Attr
}

// run goes from a place to the tag's end.
func (m *machine) run(s string, at int) said {
	m.state = 'n'
	for i := at; i < len(s); i++ {
		if m.step(s[i]) {
			return said{m.piece(), i + 1, true}
		}
	}
	return said{api.Token{}, len(s), false}
}

// step goes on by a byte, and tells whether the tag ends there.
func (m *machine) step(c byte) bool {
	blank := strings.IndexByte("\t\n\f ", c) >= 0
	if c == '>' && m.state != '"' && m.state != '\'' {
		return true
	}
	switch m.state {
	case 'n':
		if blank || c == '/' {
			m.state = 'b'
		} else {
			m.name += string([]byte{c})
		}
	case 'b':
		if !blank && c != '/' {
			m.begin(c)
		}
	case 'a':
		m.inName(c, blank)
	case 's':
		switch {
		case c == '/':
			m.state = 'b'
		case c == '=':
			m.state = 'v'
		case !blank:
			m.begin(c)
		}
	case 'v':
		switch {
		case c == '"' || c == '\'':
			m.state = c
		case !blank:
			m.state = 'u'
			m.put(c)
		}
	case 'u':
		if blank {
			m.state = 'b'
		} else {
			m.put(c)
		}
	default:
		if c == m.state {
			m.state = 'b'
		} else {
			m.put(c)
		}
	}
	return false
}

// begin is the first byte of an attribute's name.
func (m *machine) begin(c byte) {
	m.l = append(m.l, api.Attr{Name: string([]byte{c})})
	m.state = 'a'
}

// inName is a byte that stands in an attribute's name, or behind it.
func (m *machine) inName(c byte, blank bool) {
	switch {
	case blank:
		m.state = 's'
	case c == '/':
		m.state = 'b'
	case c == '=':
		m.state = 'v'
	default:
		m.l[len(m.l)-1].Name += string([]byte{c})
	}
}

// put is a byte of the last attribute's value.
func (m *machine) put(c byte) {
	m.l[len(m.l)-1].Value += string([]byte{c})
}

// piece is the tag that ended.
func (m *machine) piece() api.Token {
	x := api.Token{Kind: m.kind, Name: plainName(m.name)}
	if m.kind == api.TokEnd {
		return x
	}
	for _, a := range m.l {
		a.Name, a.Value = plainName(a.Name), charref.Decode(a.Value, true)
		if !slices.ContainsFunc(x.Attrs, func(b api.Attr) bool { return a.Name == b.Name }) {
			x.Attrs = append(x.Attrs, a)
		}
	}
	slices.SortFunc(x.Attrs, func(a, b api.Attr) int { return cmp.Compare(a.Name, b.Name) })
	return x
}

// plainName is what counts as a name.
func plainName(s string) string {
	return strings.NewReplacer(`"`, "_", "'", "_", "<", "_", "=", "_").Replace(small(s))
}

// same tells whether two answers are one; nil and an empty list are.
func same(a, b said) bool {
	if len(a.piece.Attrs) == 0 {
		a.piece.Attrs = nil
	}
	if len(b.piece.Attrs) == 0 {
		b.piece.Attrs = nil
	}
	return reflect.DeepEqual(a, b)
}

// next is Next's answer.
func next(s string, at int, raw string) said {
	piece, behind, ok := token.Next(s, at, raw)
	return said{piece, behind, ok}
}

// short is a text that may be told.
func short(s string) string {
	if len(s) > 200 {
		return s[:100] + " .. " + s[len(s)-90:]
	}
	return s
}

// wantNext holds Next against its answer.
func wantNext(t *testing.T, s string, at int, raw string, want said) {
	t.Helper()
	if got := next(s, at, raw); !same(got, want) {
		t.Errorf("Next(%q, %d, %q) = %#v, want %#v", short(s), at, raw, got, want)
	}
}

// wantSecond holds Next at each place of a text against the second reading, without raw and with each of names.
func wantSecond(t *testing.T, s string, names ...string) {
	t.Helper()
	for at := -1; at <= len(s)+1; at++ {
		wantNext(t, s, at, "", second(s, at, ""))
		for _, raw := range names {
			wantNext(t, s, at, raw, second(s, at, raw))
		}
	}
}

// Pieces, and what is answered where there is none.

func start(name string, l ...string) api.Token {
	x := api.Token{Kind: api.TokStart, Name: name}
	for i := 0; i < len(l); i += 2 {
		x.Attrs = append(x.Attrs, api.Attr{Name: l[i], Value: l[i+1]})
	}
	return x
}

func end(name string) api.Token { return api.Token{Kind: api.TokEnd, Name: name} }

func text(s string) api.Token { return api.Token{Kind: api.TokText, Text: s} }

func rawText(s string) api.Token { return api.Token{Kind: api.TokText, Text: s, Raw: true} }

func comment(s string) api.Token { return api.Token{Kind: api.TokComment, Text: s} }

func doctype(name string) api.Token { return api.Token{Kind: api.TokDoctype, Name: name} }

func is(piece api.Token, behind int) said { return said{piece, behind, true} }

func none(behind int) said { return said{api.Token{}, behind, false} }
