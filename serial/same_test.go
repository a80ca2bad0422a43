package serial_test

import (
	"slices"
	"strings"
	"testing"

	"topiary/api"
	"topiary/serial"
	"topiary/tree"
)

// alike are trees that are the same as t, part by part, but not in memory: copies, with spare room, with empty lists for nil, with nil for empty lists.
func alike(t api.Tree) []api.Tree {
	var empty, none func(api.Tree) api.Tree
	empty = func(t api.Tree) api.Tree {
		kids := []api.Tree{}
		for _, k := range t.Kids {
			kids = append(kids, empty(k))
		}
		t.Name, t.Text = strings.Clone(t.Name), strings.Clone(t.Text)
		t.Attrs, t.Kids = append([]api.Attr{}, t.Attrs...), kids
		return t
	}
	none = func(t api.Tree) api.Tree {
		var kids []api.Tree
		for _, k := range t.Kids {
			kids = append(kids, none(k))
		}
		t.Attrs, t.Kids = append([]api.Attr(nil), t.Attrs...), kids
		return t
	}
	return []api.Tree{t, roomy(t), empty(t), none(t), none(empty(t))}
}

// P16.3: trees that are the same have the same source, as they are and joined; Join again turns nothing.
func TestSame(t *testing.T) {
	seed := uint64(163)
	trees := []api.Tree{{}, root(), text(""), text("a"), comment(""), doctype(""), el("p"), el("br"), with(el("p"), "a", ""), root(el("script", text("&")), text("&"), text(""))}
	for i := range 2000 {
		trees = append(trees, drawnTree(&seed, 1+i%4, i%2 == 1))
	}
	for _, x := range trees {
		source, joined := serial.Text(x), serial.Join(x)
		for i, y := range alike(x) {
			if !tree.Same(x, y) {
				t.Fatal("the test's own trees:", i)
			}
			wantText(t, y, source)
			if got := serial.Join(y); !tree.Same(got, joined) || serial.Text(got) != serial.Text(joined) {
				t.Errorf("%q, in another form, is joined to %q, not %q", short(source), short(serial.Text(got)), short(serial.Text(joined)))
			}
		}
		for _, y := range alike(joined) {
			if got := serial.Join(y); !tree.Same(got, joined) {
				t.Errorf("Join again turns %q to %q", short(serial.Text(joined)), short(serial.Text(got)))
			}
		}
	}
}

// P16.3: texts that are cut at other places make other trees, but they have one source, and Join makes one tree of them.
func TestSameJoined(t *testing.T) {
	const words = "a<&b\u00a0"
	runes := []rune(words)
	want := root(el("p", text(words)), el("xmp", text(words)))
	for cuts := range 1 << (len(runes) - 1) {
		kids := []api.Tree{text("")}
		for i, r := range runes {
			if i > 0 && cuts>>(i-1)&1 == 1 {
				kids = append(kids, text(""), text(""))
			}
			kids[len(kids)-1].Text += string(r)
		}
		x := root(el("p", kids...), el("xmp", slices.Clone(kids)...))
		wantText(t, x, serial.Text(want))
		wantJoin(t, x, want)
	}
}
