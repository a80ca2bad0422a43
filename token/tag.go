package token

import (
	"maps"
	"slices"
	"strings"

	"topiary/api"
	"topiary/charref"
	"topiary/runes"
)

// tag is the piece of a kind whose name begins at a place.
func tag(s string, at int, kind int) (api.Token, int, bool) {
	behind := wordEnd(s, at, "/>")
	t := api.Token{Kind: kind, Name: tagName(s[at:behind])}
	known := map[string]api.Attr{}
	at = betweenEnd(s, behind)
	for at < len(s) && s[at] != '>' {
		var a api.Attr
		a, at = attribute(s, at)
		if _, twice := known[a.Name]; !twice {
			known[a.Name] = a
		}
		at = betweenEnd(s, at)
	}
	if at == len(s) {
		return api.Token{}, len(s), false
	}
	if kind == api.TokStart {
		t.Attrs = byName(known)
	}
	return t, past(s, at), true
}

// byName are attributes in the order of their names.
func byName(known map[string]api.Attr) []api.Attr {
	var l []api.Attr
	for _, name := range slices.Sorted(maps.Keys(known)) {
		l = append(l, known[name])
	}
	return l
}

// attribute is the one that begins at a place, and the place behind it.
func attribute(s string, at int) (api.Attr, int) {
	// The first byte belongs to the name, even a `=`.
	behind := wordEnd(s, at+1, "/>=")
	a := api.Attr{Name: tagName(s[at:behind])}
	at = blanksEnd(s, behind)
	if at < len(s) && s[at] == '=' {
		a.Value, at = value(s, blanksEnd(s, at+1))
	}
	return a, at
}

// value is the one that begins at a place, and the place behind it.
func value(s string, at int) (string, int) {
	if at < len(s) && (s[at] == '"' || s[at] == '\'') {
		end := upTo(s, at+1, s[at])
		return charref.Decode(s[at+1:end], true), past(s, end)
	}
	end := wordEnd(s, at, ">")
	return charref.Decode(s[at:end], true), end
}

// tagName is a tag's or an attribute's name: what would mean something else elsewhere in a tag is `_` in it.
func tagName(s string) string {
	name := []byte(runes.Lower(s))
	for i, c := range name {
		switch c {
		case '"', '\'', '<', '=':
			name[i] = '_'
		}
	}
	return string(name)
}

// wordEnd is the first place, from one on, where a Blank or one of signs stands, or the end.
func wordEnd(s string, at int, signs string) int {
	for at < len(s) && !stops(s[at], signs) {
		at++
	}
	return at
}

// stops tells whether a byte is a Blank or one of signs.
func stops(c byte, signs string) bool {
	return runes.Blank(c) || strings.IndexByte(signs, c) >= 0
}

// blanksEnd is the place behind the Blanks at a place.
func blanksEnd(s string, at int) int {
	for at < len(s) && runes.Blank(s[at]) {
		at++
	}
	return at
}

// betweenEnd is the place behind all that may stand between two attributes.
func betweenEnd(s string, at int) int {
	for at < len(s) && stops(s[at], "/") {
		at++
	}
	return at
}
