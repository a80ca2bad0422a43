package format

import (
	"strconv"
	"strings"

	"topiary/api"
)

// key is what entries that are alike have in common, and no others. A list cannot be held against another one by ==; an array can.
type key struct {
	markers int // ahead of the entry: what stands about a marker is not alike
	name    string
	size    int // of all attributes: one without a byte is not the same as none
	attrs   [api.MaxAttrs]api.Attr
	more    string // the attributes that the array has no room for
}

// keyOf is the key of an entry with so many markers ahead of it.
func keyOf(e Entry, markers int) key {
	k := key{markers: markers, name: e.Name, size: len(e.Attrs)}
	n := copy(k.attrs[:], e.Attrs)
	k.more = joined(e.Attrs[n:])
	return k
}

// joined is attributes as one text, that no others have: each name and value stands behind its length.
func joined(l []api.Attr) string {
	var b strings.Builder
	for _, a := range l {
		for _, s := range [...]string{a.Name, a.Value} {
			b.WriteString(strconv.Itoa(len(s)))
			b.WriteByte(' ')
			b.WriteString(s)
		}
	}
	return b.String()
}
