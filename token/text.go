package token

import (
	"strings"

	"topiary/api"
	"topiary/charref"
	"topiary/runes"
)

// textEnd is the place behind the text of one sort that begins at a place.
func textEnd(s string, at int) int {
	blank := runes.Blank(s[at])
	for at < len(s) && s[at] != '<' && runes.Blank(s[at]) == blank {
		at++
	}
	return at
}

// rawEnd is the place of the next end tag of a raw element, or the end.
func rawEnd(s string, at int, name string) int {
	end := openEnd + runes.Lower(name)
	for ; at < len(s); at++ {
		at = upTo(s, at, '<')
		if rest := s[at:]; begins(rest, end) && len(rest) > len(end) && stops(rest[len(end)], "/>") {
			return at
		}
	}
	return len(s)
}

// rawText is the piece of a raw element's text.
func rawText(text, name string) api.Token {
	if Raw(name) == withRefs {
		text = charref.Decode(text, false)
	}
	return api.Token{Kind: api.TokText, Text: text, Raw: true}
}

// comment is the piece whose text begins at a place.
func comment(s string, at int) (api.Token, int, bool) {
	text, behind := commentText(s, at)
	return api.Token{Kind: api.TokComment, Text: text}, behind, true
}

// commentText is a comment's text, and the place behind the comment.
func commentText(s string, at int) (string, int) {
	for _, end := range []string{">", "->"} {
		if strings.HasPrefix(s[at:], end) {
			return "", at + len(end)
		}
	}
	for i := at; i < len(s); i++ {
		i = upTo(s, i, '-')
		for _, end := range []string{"-->", "--!>"} {
			if strings.HasPrefix(s[i:], end) {
				return s[at:i], i + len(end)
			}
		}
	}
	return withoutCutEnd(s[at:]), len(s)
}

// withoutCutEnd is the text of a comment that does not end, without what would have begun its end.
func withoutCutEnd(text string) string {
	for _, end := range []string{"--!", "--", "-"} {
		if less, cut := strings.CutSuffix(text, end); cut {
			return less
		}
	}
	return text
}

// doctype is the piece that has its name behind a place.
func doctype(s string, at int) (api.Token, int, bool) {
	from := blanksEnd(s, at)
	behind := wordEnd(s, from, ">")
	return api.Token{Kind: api.TokDoctype, Name: runes.Lower(s[from:behind])}, past(s, upTo(s, behind, '>')), true
}
