package serial

import (
	"strings"
	"testing"

	"topiary/api"
)

// Ways: whoever asks for pieces may leave at each of them, and begin again: what was told up to then is the beginning of the source.
func TestPiecesLeft(t *testing.T) {
	x := api.Tree{Kind: api.Root, Kids: []api.Tree{
		{Kind: api.Doctype, Name: "html"},
		{Kind: api.Element, Name: "p", Attrs: []api.Attr{{Name: "a", Value: `"`}, {Name: "b"}}, Kids: []api.Tree{
			{Kind: api.Text, Text: "<"},
			{Kind: api.Element, Name: "br"},
			{Kind: api.Element, Name: "xmp", Kids: []api.Tree{{Kind: api.Text, Text: "<"}}},
			{Kind: api.Comment, Text: "c"},
			{Kind: 9, Text: "none"},
		}},
		{Kind: api.Text, Text: "&"},
	}}
	all := pieces(x)
	whole := Text(x)
	told := ""
	for n := 1; told != whole; n++ {
		before := told
		left := n
		told = ""
		for p := range all {
			told += p
			left--
			if left == 0 {
				break
			}
		}
		if !strings.HasPrefix(told, before) || !strings.HasPrefix(whole, told) || n > len(whole)+20 {
			t.Fatalf("%d pieces are %q, of %q", n, told, whole)
		}
	}
}
