package hash_test

import (
	"slices"
	"strings"
	"testing"

	"topiary/api"
	"topiary/bits"
	"topiary/hash"
)

// The signatures that the chapter lists.
var (
	_ func(string) uint64      = hash.Text
	_ func(api.Tree) uint64    = hash.Of
	_ func(api.Tree) []uint64  = hash.All
	_ func(api.Tree) [2]uint64 = hash.Key
)

// Nodes.

func root(kids ...api.Tree) api.Tree { return api.Tree{Kind: api.Root, Kids: kids} }

func el(name string, kids ...api.Tree) api.Tree {
	return api.Tree{Kind: api.Element, Name: name, Kids: kids}
}

func text(s string) api.Tree { return api.Tree{Kind: api.Text, Text: s} }

func comment(s string) api.Tree { return api.Tree{Kind: api.Comment, Text: s} }

func doctype(name string) api.Tree { return api.Tree{Kind: api.Doctype, Name: name} }

// with is a node with attributes more: names and values, by turns.
func with(t api.Tree, l ...string) api.Tree {
	t.Attrs = slices.Clone(t.Attrs)
	for i := 0; i < len(l); i += 2 {
		t.Attrs = append(t.Attrs, api.Attr{Name: l[i], Value: l[i+1]})
	}
	return t
}

// page is a tree of all kinds, with kids of kids of unlike depths.
func page() api.Tree {
	return root(
		doctype("html"),
		with(el("html",
			el("head", el("title", text("Yew & box"))),
			with(el("body",
				el("h1", text("Yew")),
				el("p", text("cut in "), el("b", text("May")), comment(" twice ")),
			), "class", "b", "id", "a"),
		), "lang", "en"),
	)
}

// chain is a node within n elements.
func chain(n int, t api.Tree) api.Tree {
	for range n {
		t = el("p", t)
	}
	return t
}

// A second reading of the chapter.

// mixed is h with these numbers mixed in, one behind the other.
func mixed(h uint64, l ...uint64) uint64 {
	for _, v := range l {
		h = bits.Mix(h, v)
	}
	return h
}

// secondText is a text's number: its noughts are put behind the whole text, and each byte is counted by itself.
func secondText(s string) uint64 {
	h := uint64(len(s))
	s += strings.Repeat("\x00", (8-len(s)%8)%8)
	for place := 0; place < len(s); place += 8 {
		v := uint64(0)
		for i := 7; i >= 0; i-- {
			v = v*256 + uint64(s[place+i])
		}
		h = bits.Mix(h, v)
	}
	return h
}

// tally is what a plain recursion says of a tree: the numbers of all nodes, the height.
type tally struct {
	all    []uint64
	height int
}

// secondTree counts a tree by calls of itself: the numbers of all that is in it stand behind its own.
func secondTree(t api.Tree) tally {
	c := tally{all: []uint64{0}, height: 1}
	h := mixed(uint64(t.Kind), secondText(t.Name), secondText(t.Text), uint64(len(t.Attrs)))
	for _, a := range t.Attrs {
		h = mixed(h, secondText(a.Name), secondText(a.Value))
	}
	h = mixed(h, uint64(len(t.Kids)))
	for _, k := range t.Kids {
		kid := secondTree(k)
		h = mixed(h, kid.all[0])
		c.all = append(c.all, kid.all...)
		c.height = max(c.height, kid.height+1)
	}
	c.all[0] = h
	return c
}

// wantAll holds what is said of a tree against the second reading.
func wantAll(t *testing.T, x api.Tree) {
	t.Helper()
	want := secondTree(x)
	if got := hash.Of(x); got != want.all[0] {
		t.Errorf("Of: %x, want %x", got, want.all[0])
	}
	if got := hash.All(x); !slices.Equal(got, want.all) {
		t.Errorf("All: %x, want %x", short(got), short(want.all))
	}
	if got := hash.Key(x); got != [2]uint64{want.all[0], uint64(len(want.all))*(1<<32) + uint64(want.height)} {
		t.Errorf("Key: %x, want %x, of %d nodes, %d high", got, want.all[0], len(want.all), want.height)
	}
}

// short is a list that may be told.
func short(l []uint64) []uint64 { return l[:min(len(l), 20)] }

// Trees that are drawn.

// draw is a number from 0 to n - 1.
func draw(seed *uint64, n int) int {
	*seed = *seed*6364136223846793005 + 1442695040888963407
	return int(*seed >> 33 % uint64(n))
}

// pick is one of a list, drawn.
func pick[T any](seed *uint64, l ...T) T { return l[draw(seed, len(l))] }

// drawnText is a drawn text, of about so many bytes as the steps are told apart by.
func drawnText(seed *uint64) string {
	n := pick(seed, 0, 1, 2, 7, 8, 9, 15, 16, 17, draw(seed, 70))
	var b strings.Builder
	for range n {
		b.WriteByte(byte(pick(seed, 'a', 'b', 0, 0xff, draw(seed, 256))))
	}
	return b.String()
}

// drawnTree is a drawn tree of at most so many levels. One that is wild may have any part that a node can have, whatever its kind.
func drawnTree(seed *uint64, levels int, wild bool) api.Tree {
	t := api.Tree{Kind: pick(seed, api.Element, api.Element, api.Text, api.Comment)}
	if wild {
		t.Kind = pick(seed, t.Kind, api.Root, api.Doctype, 0, 6, -3, 1<<32+api.Text)
		t.Name = drawnText(seed)
	}
	if t.Kind != api.Element || wild {
		t.Text = drawnText(seed)
	}
	if t.Kind == api.Element || wild {
		t.Name += pick(seed, "p", "b", "table", "textarea", "x-element")
		for i := range draw(seed, 4) {
			t = with(t, string(rune('a'+i)), drawnText(seed))
		}
		for range draw(seed, 5) * min(levels-1, 1) {
			t.Kids = append(t.Kids, drawnTree(seed, levels-1, wild))
		}
	}
	return t
}
